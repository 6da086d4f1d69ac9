/- A term is added to the store. -/
import Derived.Test.YtpncohoonfahpaaGreatDoorTSizeM
namespace Go.Proofs.YtpncohoonfahpaaGreatDoor
open Go Go.RowKit Go.Maps

section
variable {P : Program} {ops : Array Oper} {md : Region.Mode} {W : World} {a0 : Act} {n : Nat} {al : Nat → Bool} {S : Nat → Value → World → Prop} {Q : Exit → Act → World → Prop} {i : Nat} {o : Oper}
set_option maxRecDepth 50000 in
theorem step_max (hal : al i = false) (hg : GuardOn ops md n S i o) {x y : Operand} {p q r : Int} {ts : Array TypeId} (ho : o.op = .call { callee := .builtin .max, args := #[x, y], argTypes := ts }) (hS : S i = Is (.int .i64 r)) (hr : (if q > p then q else p) = r) (hx : Knows ops md W a0 n S i x (.int .i64 p)) (hy : Knows ops md W a0 n S i y (.int .i64 q)) : StepOk P ops md W a0 n al S Q i o :=
  step_ex (.int .i64 r) hal hg hS fun a w hw hf hd => by
    have h1 := hx a w hw hf hd
    have h2 := hy a w hw hf hd
    unfold execOp
    simp only [ho, resolve, invoke, builtin, Sem.run_bind, Sem.run_pure, Result.andThen_ok, List.map_toArray, List.map_cons, List.map_nil, h1, h2, run_max_int2, hr]
end
/-- What is drawn next, behind an atom's B. -/
def bump (b x : Int) : Int := if (if (4611686018427387904 : Int) < b then 4611686018427387904 else b) + 1 > x then (if (4611686018427387904 : Int) < b then 4611686018427387904 else b) + 1 else x
def updN (nx : List Int) (t : T3) : List Int := if t.1 = 1 then nx.set t.2.1.toNat (bump t.2.2 (nx.getD t.2.1.toNat 0)) else nx
def Lay.with (s : Lay) (A : Option Addr) (c : Nat) (A' : Option Addr) (c' : Nat) (nx : List Int) : Lay := { s with AT := A, cT := c, AS := A', cS := c', nx := nx }
/-- What adding a term leaves. -/
def AddR (p : Nat) (s : Lay) (zs : List Int) (DN DI : D0) (L : List T3) (X : List (List Int)) (t : T3) (w : World) (w' : World) : Prop :=
  ∃ s', s'.nx = updN s.nx t ∧ s'.mN = s.mN ∧ s'.mI = s.mI ∧ TS w' p s' (zs ++ [szOf zs t]) (DN.put (tk t) (i64 L.length)) DI (L ++ [t]) X ∧ Chg (foot p s) w w' ∧ (∀ b, foot p s' b → foot p s b ∨ w.heap.size ≤ b)

set_option maxRecDepth 50000 in
set_option maxHeartbeats 4000000 in
theorem add_other (p : Nat) (AT AS AX : Option Addr) (cT cS mN cX mI : Nat) (n0 n1 n2 n3 n4 : Int) (zs : List Int) (DN DI : D0) (L : List T3) (X : List (List Int)) (t : T3) (hk : t.1 ≠ 1) (hNI : mI ≠ mN) (w : World) (hT : TS w p ⟨AT, cT, AS, cS, mN, AX, cX, mI, [n0, n1, n2, n3, n4]⟩ zs DN DI L X) (ht : Twf t) (hzl : zs.length = L.length) (hzb : ∀ z ∈ zs, 1 ≤ z ∧ z ≤ 1048576) (hL : L.length ≤ 40) (x : Nat) (hwf : WFt L.length x t) :
    Calls Tryz.prog 101 #[.pointer (some ⟨p, 0, none⟩), tv t] w fun e w' => e = .returned (.tuple #[.int .i64 L.length, .int .i64 0]) ∧ AddR p ⟨AT, cT, AS, cS, mN, AX, cX, mI, [n0, n1, n2, n3, n4]⟩ zs DN DI L X t w w' := by
  have HK := hid hk
  clear hk
  obtain ⟨W, hW, d0, d1, d2, hB, hB3⟩ := term_world t w
  have hT1 := hT.next hB
  have hC1 : Chg (foot p ⟨AT, cT, AS, cS, mN, AX, cX, mI, [n0, n1, n2, n3, n4]⟩) w W := Chg.of hB _
  have c1 : W.cell? ⟨p, 1, none⟩ = some (.slice AT L.length cT) := hT1.blk.cell (i := 1) rfl
  have hlt3 : ∀ g, (Value.slice AT L.length cT).ownBlock = some g → g < w.heap.size := rowlt hT.rT
  have hlt4 : ∀ g, (Value.slice AS L.length cS).ownBlock = some g → g < w.heap.size := rowlt hT.rS
  have hltN := hT.mN.lt
  have hltp := hT.blk.lt
  obtain ⟨r, hr⟩ : ∃ r, szOf zs t = r := ⟨_, rfl⟩
  have HR := hid hr
  have hne : ((L.length : Int) == 65536) = false := beq_false_of_ne (by omega)
  have HW := hid hW
  clear hr hW d0 d1 d2
  unfold tv
  go_enter Tryz.func101, Tryz.ntmps101
  go_upto_region 1 with (fail)
  rw [HW.out]
  clear HW hT hB
  go_upto_region 4 with (fail)
  clear c1 hne
  refine region_evt 8 7 64 [false, true, true, true, true, true, true, false] [Is (Value.pointer (some ⟨p, 0, none⟩)), Is (Value.pointer (some ⟨p, 0, none⟩)), Is (Value.pointer (some ⟨p, 0, none⟩)), Is (Value.pointer (some ⟨p, 1, none⟩)), Is (Value.slice AT L.length cT), Is (Value.agg (tc t).toArray), IsRowV W.heap.size 1 (tc t), (fun _ _ => True)] [14, 15, 16, 17, 18, 19, 20, 21] (AppR 65 3 (.slice AT L.length cT) L.length (flatZ L) (tc t)) (by kernel_rfl) (by kernel_rfl) (by kernel_rfl) (Nat.le_of_eq rfl) (grows_cons (Is.grows _) (grows_cons (Is.grows _) (grows_cons (Is.grows _) (grows_cons (Is.grows _) (grows_cons (Is.grows _) (grows_cons (Is.grows _) (grows_cons (IsRowV.grows _ _ _) (grows_cons (fun _ _ _ _ _ => trivial) grows_nil))))))))
    ⟨.inr (.inr ⟨rfl, pure_ex (Value.pointer (some ⟨p, 0, none⟩)) rfl rfl (fun a w0 ww hw hf hd => by
   have h0 : a.eval (.tmp 0) = Value.pointer (some ⟨p, 0, none⟩) := ((knows_out 0 (by kernel_rfl) rfl) : Knows _ _ _ _ _ _ 0 _ _) a w0 hw hf hd
   revert h0
   generalize a.eval = ev
   intro h0
   unfold execOp
   simp only [h0]
   go_simp)⟩),
     .inr (.inl ⟨rfl, step_ex _ rfl (.inl rfl) rfl (fun a ww hw hf hd => by
   have h0 : a.eval (.tmp 0) = Value.pointer (some ⟨p, 0, none⟩) := ((knows_out 0 (by kernel_rfl) rfl) : Knows _ _ _ _ _ _ 1 _ _) a ww hw hf hd
   revert h0
   generalize a.eval = ev
   intro h0
   unfold execOp
   simp only [h0]
   go_simp)⟩),
     .inr (.inl ⟨rfl, step_ex _ rfl (.inl rfl) rfl (fun a ww hw hf hd => by
   have h15 : a.eval (.tmp 15) = Value.pointer (some ⟨p, 0, none⟩) := ((knows_in 1 15 (by decide) (by kernel_rfl) rfl rfl) : Knows _ _ _ _ _ _ 2 _ _) a ww hw hf hd
   revert h15
   generalize a.eval = ev
   intro h15
   unfold execOp
   simp only [h15]
   go_simp)⟩),
     .inr (.inl ⟨rfl, step_ex _ rfl (.inl rfl) rfl (fun a ww hw hf hd => by
   have h16 : a.eval (.tmp 16) = Value.pointer (some ⟨p, 0, none⟩) := ((knows_in 2 16 (by decide) (by kernel_rfl) rfl rfl) : Knows _ _ _ _ _ _ 3 _ _) a ww hw hf hd
   revert h16
   generalize a.eval = ev
   intro h16
   unfold execOp
   simp only [h16]
   go_simp)⟩),
     .inr (.inl ⟨rfl, step_ex _ rfl (.inl rfl) rfl (fun a ww hw hf hd => by
   have h17 : a.eval (.tmp 17) = Value.pointer (some ⟨p, 1, none⟩) := ((knows_in 3 17 (by decide) (by kernel_rfl) rfl rfl) : Knows _ _ _ _ _ _ 4 _ _) a ww hw hf hd
   have f0 : ww.cell? ⟨p, 1, none⟩ = some (Value.slice AT L.length cT) := (hT1.blk.next hw).cell (i := 1) rfl
   revert h17
   generalize a.eval = ev
   intro h17
   unfold execOp
   simp only [h17]
   go_simp)⟩),
     .inr (.inl ⟨rfl, step_ldV rfl (.inl rfl) (fun _ hw => (hB3.next hw).rw.range) rfl Tryz.underlying65 rfl (szV infT (tc_len _)) rfl (knows_out 3 (by kernel_rfl) rfl)⟩),
     .inr (.inl ⟨rfl, step_bsl (.inl rfl) rfl Tryz.underlying120 infT (by decide) (by decide) (vs := (tc t)) (by first | kernel_rfl | rfl) rfl (parts1 (knows_in 5 19 (by decide) (by kernel_rfl) rfl rfl))⟩),
     .inl rfl, trivial⟩ _ rfl rfl ?_ ?_
  · intro a ww hw hf hd
    have h18 : a.eval (.tmp 18) = Value.slice AT L.length cT := hd 4 18 (by decide) (by kernel_rfl) rfl
    obtain ⟨b, hb1, hb0, hb2⟩ := hd 6 20 (by decide) (by kernel_rfl) rfl
    exact evt_app rfl rfl Tryz.underlying120 infTb rfl (by decide) (by decide) (row_next hT1.rT hw) h18 ⟨b, hb1, hb2⟩ rfl (tc_one t) (by omega)
  intro val W2 W3 hw hS hR
  have e14 : val 14 = Value.pointer (some ⟨p, 0, none⟩) := hS 0 14 (by decide) (by decide) rfl
  have e15 : val 15 = Value.pointer (some ⟨p, 0, none⟩) := hS 1 15 (by decide) (by decide) rfl
  have e16 : val 16 = Value.pointer (some ⟨p, 0, none⟩) := hS 2 16 (by decide) (by decide) rfl
  have e17 : val 17 = Value.pointer (some ⟨p, 1, none⟩) := hS 3 17 (by decide) (by decide) rfl
  have e18 : val 18 = Value.slice AT L.length cT := hS 4 18 (by decide) (by decide) rfl
  have e19 : val 19 = Value.agg (tc t).toArray := hS 5 19 (by decide) (by decide) rfl
  have hR := hR 21 rfl
  obtain ⟨A21, c21, e21, hl21, hm21, hr21, hg21, ho21⟩ := hR
  rw [e21] at hr21 ho21
  simp only [putVals, List.foldl_cons, List.foldl_nil, List.drop_succ_cons, List.drop_zero, Act.put, List.setIfInBounds_toArray, List.set_cons_succ, List.set_cons_zero, e14, e15, e16, e17, e18, e19, e21]
  generalize val 20 = g20
  clear e14 e15 e16 e17 e18 e19 e21 hS
  have hT2 := hT1.next hw
  have hp3 := hT2.blk.grown hg21 (blk_ne hT2.blk hT2.rT (by decide))
  have rS3 := hT2.rS.kept hg21 (row_ne hT2.rS hT2.rT (by decide))
  have rX3 := hT2.rX.kept hg21 (row_ne hT2.rX hT2.rT (by decide))
  have mN3 := hT2.mN.kept hg21 (map_ne hT2.mN hT2.rT)
  have mI3 := hT2.mI.kept hg21 (map_ne hT2.mI hT2.rT)
  have hB33 := (hB3.next hw).grown hg21 (fun e => by have := hlt3 _ e.symm; omega)
  have hz2 : w.heap.size ≤ W2.heap.size := Nat.le_trans hC1.size hw.size
  have hC3 := (hC1.next hw).grown hg21 (fun g e => .inl (.inr (.inr (.inr (.inl (by rw [← e]; exact (own0 _ _ _).symm))))))
  have c1 := hp3.cell (i := 1) rfl
  have f1 := hp3.free 1
  obtain ⟨W4, hW4⟩ : ∃ W4, W3.setCell ⟨p, 1, none⟩ (.slice A21 (L.length + 1) c21) = W4 := ⟨_, rfl⟩
  have hp4 : Blk W4 p 126 [.bool true, .slice A21 (L.length + 1) c21, .slice AS L.length cS, .map (some mN), .slice AX X.length cX, .map (some mI), .int .i64 n0, .int .i64 n1, .int .i64 n2, .int .i64 n3, .int .i64 n4] := by rw [← hW4]; exact hp3.set 1 _
  have rT4 := row_setC hr21 hp3 (by decide) 1 (.slice A21 (L.length + 1) c21)
  have rS4 := row_setC rS3 hp3 (by decide) 1 (.slice A21 (L.length + 1) c21)
  have rX4 := row_setC rX3 hp3 (by decide) 1 (.slice A21 (L.length + 1) c21)
  have mN4 := mN3.setCell (a := ⟨p, 1, none⟩) (blk_map mN3 hp3) (.slice A21 (L.length + 1) c21)
  have mI4 := mI3.setCell (a := ⟨p, 1, none⟩) (blk_map mI3 hp3) (.slice A21 (L.length + 1) c21)
  have hB4 := hB33.other (a := ⟨p, 1, none⟩) (show p ≠ w.heap.size by omega) (.slice A21 (L.length + 1) c21)
  have hC4 := hC3.setCell (p := ⟨p, 1, none⟩) (.inl (.inl rfl)) (.slice A21 (L.length + 1) c21)
  rw [hW4] at rT4 rS4 rX4 mN4 mI4 hB4 hC4
  have hb21 : ∀ g, (Value.slice A21 0 c21).ownBlock = some g → foot p ⟨AT, cT, AS, cS, mN, AX, cX, mI, [n0, n1, n2, n3, n4]⟩ g ∨ w.heap.size ≤ g := fun g e => by
    rcases ho21 with h | h
    · exact .inl (.inr (.inr (.inr (.inl ((own0 _ _ _).symm.trans (h.symm.trans ((own0 _ _ _).trans e)))))))
    · have e2 := (own0 A21 (L.length + 1) c21).trans e
      rw [h] at e2; injection e2 with e2; exact .inr (by omega)
  have HW4 := hid hW4
  clear hT1 hT2 hp3 rS3 rX3 mN3 mI3 hB33 hB3 hC3 hC1 hg21 ho21 hr21 hw hW4 hz2 hlt3
  have Hsz : ∀ ww, Cl W4 ww → Calls Tryz.prog 155 #[.pointer (some ⟨p, 0, none⟩), tv t] ww fun e w' => e = .returned (.int .i64 r) ∧ Below ww.heap.size ww w' := fun ww hw => by
    have hS4 : Owns ww 0 3 .i64 (.slice AS zs.length cS) zs := by
      have := row_next rS4 hw
      rw [← hzl] at this
      exact this
    have h := size_any p cS x AS zs t ww (by rw [hzl]; exact hwf) (by rw [hzl]; exact (hp4.next hw).cell (i := 2) rfl) hS4.nums hzb
    rw [HR.out] at h
    exact h
  go_upto_region 5 with (fail)
  rw [HW4.out]
  clear HW4 c1 f1
  skip
  refine region_evt 10 9 64 [false, true, true, true, true, true, true, true, true, false] [Is (Value.pointer (some ⟨p, 0, none⟩)), Is (Value.pointer (some ⟨p, 0, none⟩)), Is (Value.pointer (some ⟨p, 0, none⟩)), Is (Value.pointer (some ⟨p, 2, none⟩)), Is (Value.slice AS L.length cS), Is (Value.pointer (some ⟨p, 0, none⟩)), Is (Value.agg (tc t).toArray), Is (Value.int .i64 r), IsRowV W4.heap.size 1 [Value.int .i64 r], (fun _ _ => True)] [24, 25, 26, 27, 28, 29, 30, 31, 32, 33] (AppR 3 1 (.slice AS L.length cS) L.length (ints .i64 zs) [Value.int .i64 r]) (by kernel_rfl) (by kernel_rfl) (by kernel_rfl) (Nat.le_of_eq rfl) (grows_cons (Is.grows _) (grows_cons (Is.grows _) (grows_cons (Is.grows _) (grows_cons (Is.grows _) (grows_cons (Is.grows _) (grows_cons (Is.grows _) (grows_cons (Is.grows _) (grows_cons (Is.grows _) (grows_cons (IsRowV.grows _ _ _) (grows_cons (fun _ _ _ _ _ => trivial) grows_nil))))))))))
    ⟨.inr (.inr ⟨rfl, pure_ex (Value.pointer (some ⟨p, 0, none⟩)) rfl rfl (fun a w0 ww hw hf hd => by
   have h0 : a.eval (.tmp 0) = Value.pointer (some ⟨p, 0, none⟩) := ((knows_out 0 (by kernel_rfl) rfl) : Knows _ _ _ _ _ _ 0 _ _) a w0 hw hf hd
   revert h0
   generalize a.eval = ev
   intro h0
   unfold execOp
   simp only [h0]
   go_simp)⟩),
     .inr (.inl ⟨rfl, step_ex _ rfl (.inl rfl) rfl (fun a ww hw hf hd => by
   have h0 : a.eval (.tmp 0) = Value.pointer (some ⟨p, 0, none⟩) := ((knows_out 0 (by kernel_rfl) rfl) : Knows _ _ _ _ _ _ 1 _ _) a ww hw hf hd
   revert h0
   generalize a.eval = ev
   intro h0
   unfold execOp
   simp only [h0]
   go_simp)⟩),
     .inr (.inl ⟨rfl, step_ex _ rfl (.inl rfl) rfl (fun a ww hw hf hd => by
   have h25 : a.eval (.tmp 25) = Value.pointer (some ⟨p, 0, none⟩) := ((knows_in 1 25 (by decide) (by kernel_rfl) rfl rfl) : Knows _ _ _ _ _ _ 2 _ _) a ww hw hf hd
   revert h25
   generalize a.eval = ev
   intro h25
   unfold execOp
   simp only [h25]
   go_simp)⟩),
     .inr (.inl ⟨rfl, step_ex _ rfl (.inl rfl) rfl (fun a ww hw hf hd => by
   have h26 : a.eval (.tmp 26) = Value.pointer (some ⟨p, 0, none⟩) := ((knows_in 2 26 (by decide) (by kernel_rfl) rfl rfl) : Knows _ _ _ _ _ _ 3 _ _) a ww hw hf hd
   revert h26
   generalize a.eval = ev
   intro h26
   unfold execOp
   simp only [h26]
   go_simp)⟩),
     .inr (.inl ⟨rfl, step_ex _ rfl (.inl rfl) rfl (fun a ww hw hf hd => by
   have h27 : a.eval (.tmp 27) = Value.pointer (some ⟨p, 2, none⟩) := ((knows_in 3 27 (by decide) (by kernel_rfl) rfl rfl) : Knows _ _ _ _ _ _ 4 _ _) a ww hw hf hd
   have f0 : ww.cell? ⟨p, 2, none⟩ = some (Value.slice AS L.length cS) := (hp4.next hw).cell (i := 2) rfl
   revert h27
   generalize a.eval = ev
   intro h27
   unfold execOp
   simp only [h27]
   go_simp)⟩),
     .inr (.inl ⟨rfl, step_ex _ rfl (.inl rfl) rfl (fun a ww hw hf hd => by
   have h0 : a.eval (.tmp 0) = Value.pointer (some ⟨p, 0, none⟩) := ((knows_out 0 (by kernel_rfl) rfl) : Knows _ _ _ _ _ _ 5 _ _) a ww hw hf hd
   revert h0
   generalize a.eval = ev
   intro h0
   unfold execOp
   simp only [h0]
   go_simp)⟩),
     .inr (.inl ⟨rfl, step_ldV rfl (.inl rfl) (fun _ hw => (hB4.next hw).rw.range) rfl Tryz.underlying65 rfl (szV infT (tc_len _)) rfl (knows_out 3 (by kernel_rfl) rfl)⟩),
     .inr (.inl ⟨rfl, step_cw rfl (.inl rfl) rfl cxT155 rfl (fun aa ww hw hf hd => ⟨_, (two_args (knows_in 5 29 (by decide) (by kernel_rfl) rfl rfl) (knows_in 6 30 (by decide) (by kernel_rfl) rfl rfl)) aa ww hw hf hd, (Hsz ww hw)⟩)⟩),
     .inr (.inl ⟨rfl, step_bsl (.inl rfl) rfl Tryz.underlying101 infI (by decide) (by decide) (vs := [Value.int .i64 r]) (by first | kernel_rfl | rfl) rfl (parts1 (knows_in 7 31 (by decide) (by kernel_rfl) rfl rfl))⟩),
     .inl rfl, trivial⟩ _ rfl rfl ?_ ?_
  · intro a ww hw hf hd
    have h28 : a.eval (.tmp 28) = Value.slice AS L.length cS := hd 4 28 (by decide) (by kernel_rfl) rfl
    obtain ⟨b, hb1, hb0, hb2⟩ := hd 8 32 (by decide) (by kernel_rfl) rfl
    exact evt_app rfl rfl Tryz.underlying101 infIb rfl (by decide) (by decide) (row_next rS4 hw) h28 ⟨b, hb1, hb2⟩ rfl (by simp [Value.oneCell']) (by omega)
  intro val W2 W3 hw hS hR
  have e24 : val 24 = Value.pointer (some ⟨p, 0, none⟩) := hS 0 24 (by decide) (by decide) rfl
  have e25 : val 25 = Value.pointer (some ⟨p, 0, none⟩) := hS 1 25 (by decide) (by decide) rfl
  have e26 : val 26 = Value.pointer (some ⟨p, 0, none⟩) := hS 2 26 (by decide) (by decide) rfl
  have e27 : val 27 = Value.pointer (some ⟨p, 2, none⟩) := hS 3 27 (by decide) (by decide) rfl
  have e28 : val 28 = Value.slice AS L.length cS := hS 4 28 (by decide) (by decide) rfl
  have e29 : val 29 = Value.pointer (some ⟨p, 0, none⟩) := hS 5 29 (by decide) (by decide) rfl
  have e30 : val 30 = Value.agg (tc t).toArray := hS 6 30 (by decide) (by decide) rfl
  have e31 : val 31 = Value.int .i64 r := hS 7 31 (by decide) (by decide) rfl
  have hR := hR 33 rfl
  obtain ⟨A33, c33, e33, hl33, hm33, hr33, hg33, ho33⟩ := hR
  rw [e33] at hr33 ho33
  simp only [putVals, List.foldl_cons, List.foldl_nil, List.drop_succ_cons, List.drop_zero, Act.put, List.setIfInBounds_toArray, List.set_cons_succ, List.set_cons_zero, e24, e25, e26, e27, e28, e29, e30, e31, e33]
  generalize val 32 = g32
  clear e24 e25 e26 e27 e28 e29 e30 e31 e33 hS
  have hp5 := hp4.next hw
  have rT5 := row_next rT4 hw
  have rS5 := row_next rS4 hw
  have rX5 := row_next rX4 hw
  have mN5 := map_next mN4 hw
  have mI5 := map_next mI4 hw
  have hB5 := hB4.next hw
  have hp6 := hp5.grown hg33 (blk_ne hp5 rS5 (by decide))
  have rT6 := rT5.kept hg33 (row_ne rT5 rS5 (by decide))
  have rX6 := rX5.kept hg33 (row_ne rX5 rS5 (by decide))
  have mN6 := mN5.kept hg33 (map_ne mN5 rS5)
  have mI6 := mI5.kept hg33 (map_ne mI5 rS5)
  have hB6 := hB5.grown hg33 (fun e => by have := hlt4 _ e.symm; omega)
  have hz4 : w.heap.size ≤ W2.heap.size := Nat.le_trans hC4.size hw.size
  have hC6 := (hC4.next hw).grown hg33 (fun g e => .inl (.inr (.inr (.inr (.inr (.inl (by rw [← e]; exact (own0 _ _ _).symm)))))))
  have c2 := hp6.cell (i := 2) rfl
  have f2 := hp6.free 2
  obtain ⟨W7, hW7⟩ : ∃ W7, W3.setCell ⟨p, 2, none⟩ (.slice A33 (L.length + 1) c33) = W7 := ⟨_, rfl⟩
  have hp7 : Blk W7 p 126 [.bool true, .slice A21 (L.length + 1) c21, .slice A33 (L.length + 1) c33, .map (some mN), .slice AX X.length cX, .map (some mI), .int .i64 n0, .int .i64 n1, .int .i64 n2, .int .i64 n3, .int .i64 n4] := by rw [← hW7]; exact hp6.set 2 _
  have rT7 := row_setC rT6 hp6 (by decide) 2 (.slice A33 (L.length + 1) c33)
  have rS7 := row_setC hr33 hp6 (by decide) 2 (.slice A33 (L.length + 1) c33)
  have rX7 := row_setC rX6 hp6 (by decide) 2 (.slice A33 (L.length + 1) c33)
  have mN7 := mN6.setCell (a := ⟨p, 2, none⟩) (blk_map mN6 hp6) (.slice A33 (L.length + 1) c33)
  have mI7 := mI6.setCell (a := ⟨p, 2, none⟩) (blk_map mI6 hp6) (.slice A33 (L.length + 1) c33)
  have hB7 := hB6.other (a := ⟨p, 2, none⟩) (show p ≠ w.heap.size by omega) (.slice A33 (L.length + 1) c33)
  have hC7 := hC6.setCell (p := ⟨p, 2, none⟩) (.inl (.inl rfl)) (.slice A33 (L.length + 1) c33)
  rw [hW7] at rT7 rS7 rX7 mN7 mI7 hB7 hC7
  have hb33 : ∀ g, (Value.slice A33 0 c33).ownBlock = some g → foot p ⟨AT, cT, AS, cS, mN, AX, cX, mI, [n0, n1, n2, n3, n4]⟩ g ∨ w.heap.size ≤ g := fun g e => by
    rcases ho33 with h | h
    · exact .inl (.inr (.inr (.inr (.inr (.inl ((own0 _ _ _).symm.trans (h.symm.trans ((own0 _ _ _).trans e))))))))
    · have e2 := (own0 A33 (L.length + 1) c33).trans e
      rw [h] at e2; injection e2 with e2; exact .inr (by omega)
  have HW7 := hid hW7
  clear hp4 rT4 rS4 rX4 mN4 mI4 hB4 hp5 rT5 rS5 rX5 mN5 mI5 hB5 hp6 rT6 rX6 mN6 mI6 hB6 hC6 hC4 hg33 ho33 hr33 hw hW7 hz4 hlt4 Hsz
  go_upto_region 6 with (fail)
  rw [HW7.out]
  clear HW7 c2 f2
  refine region_spec2 6 64 (fun _ => false) [Is (Value.pointer (some ⟨p, 0, none⟩)), Is (Value.pointer (some ⟨p, 0, none⟩)), Is (Value.pointer (some ⟨p, 3, none⟩)), Is (Value.map (some mN)), Is (Value.agg (tc t).toArray), Is (Value.int .i64 (L.length : Nat))] [36, 37, 38, 39, 40, 41] (by kernel_rfl) (by kernel_rfl) (by kernel_rfl) (Nat.le_of_eq rfl) (grows_cons (Is.grows _) (grows_cons (Is.grows _) (grows_cons (Is.grows _) (grows_cons (Is.grows _) (grows_cons (Is.grows _) (grows_cons (Is.grows _) grows_nil))))))
    ⟨(step_ex _ rfl (.inl rfl) rfl (fun a ww hw hf hd => by
   have h0 : a.eval (.tmp 0) = Value.pointer (some ⟨p, 0, none⟩) := ((knows_out 0 (by kernel_rfl) rfl) : Knows _ _ _ _ _ _ 0 _ _) a ww hw hf hd
   revert h0
   generalize a.eval = ev
   intro h0
   unfold execOp
   simp only [h0]
   go_simp)),
     (step_ex _ rfl (.inl rfl) rfl (fun a ww hw hf hd => by
   have h36 : a.eval (.tmp 36) = Value.pointer (some ⟨p, 0, none⟩) := ((knows_in 0 36 (by decide) (by kernel_rfl) rfl rfl) : Knows _ _ _ _ _ _ 1 _ _) a ww hw hf hd
   revert h36
   generalize a.eval = ev
   intro h36
   unfold execOp
   simp only [h36]
   go_simp)),
     (step_ex _ rfl (.inl rfl) rfl (fun a ww hw hf hd => by
   have h37 : a.eval (.tmp 37) = Value.pointer (some ⟨p, 0, none⟩) := ((knows_in 1 37 (by decide) (by kernel_rfl) rfl rfl) : Knows _ _ _ _ _ _ 2 _ _) a ww hw hf hd
   revert h37
   generalize a.eval = ev
   intro h37
   unfold execOp
   simp only [h37]
   go_simp)),
     (step_ex _ rfl (.inl rfl) rfl (fun a ww hw hf hd => by
   have h38 : a.eval (.tmp 38) = Value.pointer (some ⟨p, 3, none⟩) := ((knows_in 2 38 (by decide) (by kernel_rfl) rfl rfl) : Knows _ _ _ _ _ _ 3 _ _) a ww hw hf hd
   have f0 : ww.cell? ⟨p, 3, none⟩ = some (Value.map (some mN)) := (hp7.next hw).cell (i := 3) rfl
   revert h38
   generalize a.eval = ev
   intro h38
   unfold execOp
   simp only [h38]
   go_simp)),
     (step_ldV rfl (.inl rfl) (fun _ hw => (hB7.next hw).rw.range) rfl Tryz.underlying65 rfl (szV infT (tc_len _)) rfl (knows_out 3 (by kernel_rfl) rfl)),
     (step_ex _ rfl (.inl rfl) rfl (fun a ww hw hf hd => by
   have h6 : a.eval (.tmp 6) = Value.int .i64 (L.length : Nat) := ((knows_out 6 (by kernel_rfl) rfl) : Knows _ _ _ _ _ _ 5 _ _) a ww hw hf hd
   revert h6
   generalize a.eval = ev
   intro h6
   unfold execOp
   simp only [h6]
   go_simp)), trivial⟩ ?_
  intro val W8 hw hS _ _
  have e36 : val 36 = Value.pointer (some ⟨p, 0, none⟩) := hS 0 36 (by decide) rfl
  have e37 : val 37 = Value.pointer (some ⟨p, 0, none⟩) := hS 1 37 (by decide) rfl
  have e38 : val 38 = Value.pointer (some ⟨p, 3, none⟩) := hS 2 38 (by decide) rfl
  have e39 : val 39 = Value.map (some mN) := hS 3 39 (by decide) rfl
  have e40 : val 40 = Value.agg (tc t).toArray := hS 4 40 (by decide) rfl
  have e41 : val 41 = Value.int .i64 (L.length : Nat) := hS 5 41 (by decide) rfl
  simp only [putVals, List.foldl_cons, List.foldl_nil, List.drop_succ_cons, List.drop_zero, Act.put, List.setIfInBounds_toArray, List.set_cons_succ, List.set_cons_zero, e36, e37, e38, e39, e40, e41]
  clear e36 e37 e38 e39 e40 e41 hS
  have hp8 := hp7.next hw
  have rT8 := row_next rT7 hw
  have rS8 := row_next rS7 hw
  have rX8 := row_next rX7 hw
  have mN8 := map_next mN7 hw
  have mI8 := map_next mI7 hw
  have hB8 := hB7.next hw
  have hC8 := hC7.next hw
  have hnlt : L.length < maxLen := by unfold maxLen; omega
  have hpe := plainElem_int (H := Unit) Tryz.underlying3 (q := .i64) (a := (L.length : Int)) (WalkArith.wf_i64 (by omega))
  go_upto_region 7 with (at_mapUpdate; refine wpList_mapUpdate_own _ rfl _ _ _ 121 rfl 65 3 lawT Tryz.underlying121 _ mN L.length DN rfl mN8 hnlt _ _ (tk t) rfl rfl (key_of t ht) (i64 L.length) [] hpe ?_; intro W9 mN9 hg9)
  have hnN : ∀ {b t : Nat} {cs : List Value}, Blk W8 b t cs → some b ≠ some mN := fun h e => by injection e with e; exact blk_map mN8 h e.symm
  have hnR : ∀ {e s n : Nat} {v : Value} {xs : List Value}, W8.ownsRow 0 e s v n xs → v.ownBlock = none ∨ v.ownBlock ≠ some mN := fun h => .inr fun e => map_ne mN8 h e.symm
  have hp9 := hp8.grown hg9 (hnN hp8)
  have rT9 := rT8.kept hg9 (hnR rT8)
  have rS9 := rS8.kept hg9 (hnR rS8)
  have rX9 := rX8.kept hg9 (hnR rX8)
  have hB9 := hB8.grown hg9 (hnN hB8)
  have mI9 := mI8.kept hg9 (fun e => hNI (by injection e))
  have hC9 := hC8.grown hg9 (fun g e => .inl (.inr (.inl (by injection e with e; exact e.symm))))
  clear hp7 rT7 rS7 rX7 mN7 mI7 hB7 hC7 hp8 rT8 rS8 rX8 mN8 mI8 hB8 hC8 hg9 hnN hnR hw hpe hnlt
  have hk := HK.out
  have hk1 : (t.1 == 1) = false := beq_false_of_ne hk
  have x0 := hB9.cell (i := 0) rfl
  go_wp2
  have h9C := hC9
  go_ret2
  have hlen : (L ++ [t]).length = L.length + 1 := by simp
  have hfl : flatZ (L ++ [t]) = flatZ L ++ tc t := by rw [flat_appZ, flat_one]
  have hzz : ints .i64 (zs ++ [r]) = ints .i64 zs ++ [Value.int .i64 r] := ints_app _ _ _
  refine ⟨rfl, ⟨A21, c21, A33, c33, mN, AX, cX, mI, [n0, n1, n2, n3, n4]⟩, by unfold updN; rw [if_neg hk], rfl, rfl, ?_, h9C, fun b hb => ?_⟩
  · rw [HR.out]
    refine ⟨by rw [hlen]; exact hp9, by rw [hlen, hfl]; exact rT9, by rw [hlen, hzz]; exact rS9, rX9, by rw [hlen]; exact mN9, mI9⟩
  · rcases hb with h | h | h | h | h | h
    · exact .inl (.inl h)
    · exact .inl (.inr (.inl h))
    · exact .inl (.inr (.inr (.inl h)))
    · exact hb21 b h
    · exact hb33 b h
    · exact .inl (.inr (.inr (.inr (.inr (.inr h)))))
set_option maxRecDepth 50000 in
set_option maxHeartbeats 4000000 in
theorem add_atom1 (p : Nat) (AT AS AX : Option Addr) (cT cS mN cX mI : Nat) (n0 n1 n2 n3 n4 : Int) (zs : List Int) (DN DI : D0) (L : List T3) (X : List (List Int)) (t : T3) (tb : Int) (hk : t = (1, 1, tb)) (hb0 : 0 ≤ tb) (hb1 : n1 ≤ 4611686018427387905) (hb2 : 0 ≤ n1) (hNI : mI ≠ mN) (w : World) (hT : TS w p ⟨AT, cT, AS, cS, mN, AX, cX, mI, [n0, n1, n2, n3, n4]⟩ zs DN DI L X) (ht : Twf t) (hzl : zs.length = L.length) (hzb : ∀ z ∈ zs, 1 ≤ z ∧ z ≤ 1048576) (hL : L.length ≤ 40) (x : Nat) (hwf : WFt L.length x t) :
    Calls Tryz.prog 101 #[.pointer (some ⟨p, 0, none⟩), tv t] w fun e w' => e = .returned (.tuple #[.int .i64 L.length, .int .i64 0]) ∧ AddR p ⟨AT, cT, AS, cS, mN, AX, cX, mI, [n0, n1, n2, n3, n4]⟩ zs DN DI L X t w w' := by
  have HK := hid hk
  clear hk
  obtain ⟨W, hW, d0, d1, d2, hB, hB3⟩ := term_world t w
  have hT1 := hT.next hB
  have hC1 : Chg (foot p ⟨AT, cT, AS, cS, mN, AX, cX, mI, [n0, n1, n2, n3, n4]⟩) w W := Chg.of hB _
  have c1 : W.cell? ⟨p, 1, none⟩ = some (.slice AT L.length cT) := hT1.blk.cell (i := 1) rfl
  have hlt3 : ∀ g, (Value.slice AT L.length cT).ownBlock = some g → g < w.heap.size := rowlt hT.rT
  have hlt4 : ∀ g, (Value.slice AS L.length cS).ownBlock = some g → g < w.heap.size := rowlt hT.rS
  have hltN := hT.mN.lt
  have hltp := hT.blk.lt
  obtain ⟨r, hr⟩ : ∃ r, szOf zs t = r := ⟨_, rfl⟩
  have HR := hid hr
  have hne : ((L.length : Int) == 65536) = false := beq_false_of_ne (by omega)
  have HW := hid hW
  clear hr hW d0 d1 d2
  unfold tv
  go_enter Tryz.func101, Tryz.ntmps101
  go_upto_region 1 with (fail)
  rw [HW.out]
  clear HW hT hB
  go_upto_region 4 with (fail)
  clear c1 hne
  refine region_evt 8 7 64 [false, true, true, true, true, true, true, false] [Is (Value.pointer (some ⟨p, 0, none⟩)), Is (Value.pointer (some ⟨p, 0, none⟩)), Is (Value.pointer (some ⟨p, 0, none⟩)), Is (Value.pointer (some ⟨p, 1, none⟩)), Is (Value.slice AT L.length cT), Is (Value.agg (tc t).toArray), IsRowV W.heap.size 1 (tc t), (fun _ _ => True)] [14, 15, 16, 17, 18, 19, 20, 21] (AppR 65 3 (.slice AT L.length cT) L.length (flatZ L) (tc t)) (by kernel_rfl) (by kernel_rfl) (by kernel_rfl) (Nat.le_of_eq rfl) (grows_cons (Is.grows _) (grows_cons (Is.grows _) (grows_cons (Is.grows _) (grows_cons (Is.grows _) (grows_cons (Is.grows _) (grows_cons (Is.grows _) (grows_cons (IsRowV.grows _ _ _) (grows_cons (fun _ _ _ _ _ => trivial) grows_nil))))))))
    ⟨.inr (.inr ⟨rfl, pure_ex (Value.pointer (some ⟨p, 0, none⟩)) rfl rfl (fun a w0 ww hw hf hd => by
   have h0 : a.eval (.tmp 0) = Value.pointer (some ⟨p, 0, none⟩) := ((knows_out 0 (by kernel_rfl) rfl) : Knows _ _ _ _ _ _ 0 _ _) a w0 hw hf hd
   revert h0
   generalize a.eval = ev
   intro h0
   unfold execOp
   simp only [h0]
   go_simp)⟩),
     .inr (.inl ⟨rfl, step_ex _ rfl (.inl rfl) rfl (fun a ww hw hf hd => by
   have h0 : a.eval (.tmp 0) = Value.pointer (some ⟨p, 0, none⟩) := ((knows_out 0 (by kernel_rfl) rfl) : Knows _ _ _ _ _ _ 1 _ _) a ww hw hf hd
   revert h0
   generalize a.eval = ev
   intro h0
   unfold execOp
   simp only [h0]
   go_simp)⟩),
     .inr (.inl ⟨rfl, step_ex _ rfl (.inl rfl) rfl (fun a ww hw hf hd => by
   have h15 : a.eval (.tmp 15) = Value.pointer (some ⟨p, 0, none⟩) := ((knows_in 1 15 (by decide) (by kernel_rfl) rfl rfl) : Knows _ _ _ _ _ _ 2 _ _) a ww hw hf hd
   revert h15
   generalize a.eval = ev
   intro h15
   unfold execOp
   simp only [h15]
   go_simp)⟩),
     .inr (.inl ⟨rfl, step_ex _ rfl (.inl rfl) rfl (fun a ww hw hf hd => by
   have h16 : a.eval (.tmp 16) = Value.pointer (some ⟨p, 0, none⟩) := ((knows_in 2 16 (by decide) (by kernel_rfl) rfl rfl) : Knows _ _ _ _ _ _ 3 _ _) a ww hw hf hd
   revert h16
   generalize a.eval = ev
   intro h16
   unfold execOp
   simp only [h16]
   go_simp)⟩),
     .inr (.inl ⟨rfl, step_ex _ rfl (.inl rfl) rfl (fun a ww hw hf hd => by
   have h17 : a.eval (.tmp 17) = Value.pointer (some ⟨p, 1, none⟩) := ((knows_in 3 17 (by decide) (by kernel_rfl) rfl rfl) : Knows _ _ _ _ _ _ 4 _ _) a ww hw hf hd
   have f0 : ww.cell? ⟨p, 1, none⟩ = some (Value.slice AT L.length cT) := (hT1.blk.next hw).cell (i := 1) rfl
   revert h17
   generalize a.eval = ev
   intro h17
   unfold execOp
   simp only [h17]
   go_simp)⟩),
     .inr (.inl ⟨rfl, step_ldV rfl (.inl rfl) (fun _ hw => (hB3.next hw).rw.range) rfl Tryz.underlying65 rfl (szV infT (tc_len _)) rfl (knows_out 3 (by kernel_rfl) rfl)⟩),
     .inr (.inl ⟨rfl, step_bsl (.inl rfl) rfl Tryz.underlying120 infT (by decide) (by decide) (vs := (tc t)) (by first | kernel_rfl | rfl) rfl (parts1 (knows_in 5 19 (by decide) (by kernel_rfl) rfl rfl))⟩),
     .inl rfl, trivial⟩ _ rfl rfl ?_ ?_
  · intro a ww hw hf hd
    have h18 : a.eval (.tmp 18) = Value.slice AT L.length cT := hd 4 18 (by decide) (by kernel_rfl) rfl
    obtain ⟨b, hb1, hb0, hb2⟩ := hd 6 20 (by decide) (by kernel_rfl) rfl
    exact evt_app rfl rfl Tryz.underlying120 infTb rfl (by decide) (by decide) (row_next hT1.rT hw) h18 ⟨b, hb1, hb2⟩ rfl (tc_one t) (by omega)
  intro val W2 W3 hw hS hR
  have e14 : val 14 = Value.pointer (some ⟨p, 0, none⟩) := hS 0 14 (by decide) (by decide) rfl
  have e15 : val 15 = Value.pointer (some ⟨p, 0, none⟩) := hS 1 15 (by decide) (by decide) rfl
  have e16 : val 16 = Value.pointer (some ⟨p, 0, none⟩) := hS 2 16 (by decide) (by decide) rfl
  have e17 : val 17 = Value.pointer (some ⟨p, 1, none⟩) := hS 3 17 (by decide) (by decide) rfl
  have e18 : val 18 = Value.slice AT L.length cT := hS 4 18 (by decide) (by decide) rfl
  have e19 : val 19 = Value.agg (tc t).toArray := hS 5 19 (by decide) (by decide) rfl
  have hR := hR 21 rfl
  obtain ⟨A21, c21, e21, hl21, hm21, hr21, hg21, ho21⟩ := hR
  rw [e21] at hr21 ho21
  simp only [putVals, List.foldl_cons, List.foldl_nil, List.drop_succ_cons, List.drop_zero, Act.put, List.setIfInBounds_toArray, List.set_cons_succ, List.set_cons_zero, e14, e15, e16, e17, e18, e19, e21]
  generalize val 20 = g20
  clear e14 e15 e16 e17 e18 e19 e21 hS
  have hT2 := hT1.next hw
  have hp3 := hT2.blk.grown hg21 (blk_ne hT2.blk hT2.rT (by decide))
  have rS3 := hT2.rS.kept hg21 (row_ne hT2.rS hT2.rT (by decide))
  have rX3 := hT2.rX.kept hg21 (row_ne hT2.rX hT2.rT (by decide))
  have mN3 := hT2.mN.kept hg21 (map_ne hT2.mN hT2.rT)
  have mI3 := hT2.mI.kept hg21 (map_ne hT2.mI hT2.rT)
  have hB33 := (hB3.next hw).grown hg21 (fun e => by have := hlt3 _ e.symm; omega)
  have hz2 : w.heap.size ≤ W2.heap.size := Nat.le_trans hC1.size hw.size
  have hC3 := (hC1.next hw).grown hg21 (fun g e => .inl (.inr (.inr (.inr (.inl (by rw [← e]; exact (own0 _ _ _).symm))))))
  have c1 := hp3.cell (i := 1) rfl
  have f1 := hp3.free 1
  obtain ⟨W4, hW4⟩ : ∃ W4, W3.setCell ⟨p, 1, none⟩ (.slice A21 (L.length + 1) c21) = W4 := ⟨_, rfl⟩
  have hp4 : Blk W4 p 126 [.bool true, .slice A21 (L.length + 1) c21, .slice AS L.length cS, .map (some mN), .slice AX X.length cX, .map (some mI), .int .i64 n0, .int .i64 n1, .int .i64 n2, .int .i64 n3, .int .i64 n4] := by rw [← hW4]; exact hp3.set 1 _
  have rT4 := row_setC hr21 hp3 (by decide) 1 (.slice A21 (L.length + 1) c21)
  have rS4 := row_setC rS3 hp3 (by decide) 1 (.slice A21 (L.length + 1) c21)
  have rX4 := row_setC rX3 hp3 (by decide) 1 (.slice A21 (L.length + 1) c21)
  have mN4 := mN3.setCell (a := ⟨p, 1, none⟩) (blk_map mN3 hp3) (.slice A21 (L.length + 1) c21)
  have mI4 := mI3.setCell (a := ⟨p, 1, none⟩) (blk_map mI3 hp3) (.slice A21 (L.length + 1) c21)
  have hB4 := hB33.other (a := ⟨p, 1, none⟩) (show p ≠ w.heap.size by omega) (.slice A21 (L.length + 1) c21)
  have hC4 := hC3.setCell (p := ⟨p, 1, none⟩) (.inl (.inl rfl)) (.slice A21 (L.length + 1) c21)
  rw [hW4] at rT4 rS4 rX4 mN4 mI4 hB4 hC4
  have hb21 : ∀ g, (Value.slice A21 0 c21).ownBlock = some g → foot p ⟨AT, cT, AS, cS, mN, AX, cX, mI, [n0, n1, n2, n3, n4]⟩ g ∨ w.heap.size ≤ g := fun g e => by
    rcases ho21 with h | h
    · exact .inl (.inr (.inr (.inr (.inl ((own0 _ _ _).symm.trans (h.symm.trans ((own0 _ _ _).trans e)))))))
    · have e2 := (own0 A21 (L.length + 1) c21).trans e
      rw [h] at e2; injection e2 with e2; exact .inr (by omega)
  have HW4 := hid hW4
  clear hT1 hT2 hp3 rS3 rX3 mN3 mI3 hB33 hB3 hC3 hC1 hg21 ho21 hr21 hw hW4 hz2 hlt3
  have Hsz : ∀ ww, Cl W4 ww → Calls Tryz.prog 155 #[.pointer (some ⟨p, 0, none⟩), tv t] ww fun e w' => e = .returned (.int .i64 r) ∧ Below ww.heap.size ww w' := fun ww hw => by
    have hS4 : Owns ww 0 3 .i64 (.slice AS zs.length cS) zs := by
      have := row_next rS4 hw
      rw [← hzl] at this
      exact this
    have h := size_any p cS x AS zs t ww (by rw [hzl]; exact hwf) (by rw [hzl]; exact (hp4.next hw).cell (i := 2) rfl) hS4.nums hzb
    rw [HR.out] at h
    exact h
  go_upto_region 5 with (fail)
  rw [HW4.out]
  clear HW4 c1 f1
  skip
  refine region_evt 10 9 64 [false, true, true, true, true, true, true, true, true, false] [Is (Value.pointer (some ⟨p, 0, none⟩)), Is (Value.pointer (some ⟨p, 0, none⟩)), Is (Value.pointer (some ⟨p, 0, none⟩)), Is (Value.pointer (some ⟨p, 2, none⟩)), Is (Value.slice AS L.length cS), Is (Value.pointer (some ⟨p, 0, none⟩)), Is (Value.agg (tc t).toArray), Is (Value.int .i64 r), IsRowV W4.heap.size 1 [Value.int .i64 r], (fun _ _ => True)] [24, 25, 26, 27, 28, 29, 30, 31, 32, 33] (AppR 3 1 (.slice AS L.length cS) L.length (ints .i64 zs) [Value.int .i64 r]) (by kernel_rfl) (by kernel_rfl) (by kernel_rfl) (Nat.le_of_eq rfl) (grows_cons (Is.grows _) (grows_cons (Is.grows _) (grows_cons (Is.grows _) (grows_cons (Is.grows _) (grows_cons (Is.grows _) (grows_cons (Is.grows _) (grows_cons (Is.grows _) (grows_cons (Is.grows _) (grows_cons (IsRowV.grows _ _ _) (grows_cons (fun _ _ _ _ _ => trivial) grows_nil))))))))))
    ⟨.inr (.inr ⟨rfl, pure_ex (Value.pointer (some ⟨p, 0, none⟩)) rfl rfl (fun a w0 ww hw hf hd => by
   have h0 : a.eval (.tmp 0) = Value.pointer (some ⟨p, 0, none⟩) := ((knows_out 0 (by kernel_rfl) rfl) : Knows _ _ _ _ _ _ 0 _ _) a w0 hw hf hd
   revert h0
   generalize a.eval = ev
   intro h0
   unfold execOp
   simp only [h0]
   go_simp)⟩),
     .inr (.inl ⟨rfl, step_ex _ rfl (.inl rfl) rfl (fun a ww hw hf hd => by
   have h0 : a.eval (.tmp 0) = Value.pointer (some ⟨p, 0, none⟩) := ((knows_out 0 (by kernel_rfl) rfl) : Knows _ _ _ _ _ _ 1 _ _) a ww hw hf hd
   revert h0
   generalize a.eval = ev
   intro h0
   unfold execOp
   simp only [h0]
   go_simp)⟩),
     .inr (.inl ⟨rfl, step_ex _ rfl (.inl rfl) rfl (fun a ww hw hf hd => by
   have h25 : a.eval (.tmp 25) = Value.pointer (some ⟨p, 0, none⟩) := ((knows_in 1 25 (by decide) (by kernel_rfl) rfl rfl) : Knows _ _ _ _ _ _ 2 _ _) a ww hw hf hd
   revert h25
   generalize a.eval = ev
   intro h25
   unfold execOp
   simp only [h25]
   go_simp)⟩),
     .inr (.inl ⟨rfl, step_ex _ rfl (.inl rfl) rfl (fun a ww hw hf hd => by
   have h26 : a.eval (.tmp 26) = Value.pointer (some ⟨p, 0, none⟩) := ((knows_in 2 26 (by decide) (by kernel_rfl) rfl rfl) : Knows _ _ _ _ _ _ 3 _ _) a ww hw hf hd
   revert h26
   generalize a.eval = ev
   intro h26
   unfold execOp
   simp only [h26]
   go_simp)⟩),
     .inr (.inl ⟨rfl, step_ex _ rfl (.inl rfl) rfl (fun a ww hw hf hd => by
   have h27 : a.eval (.tmp 27) = Value.pointer (some ⟨p, 2, none⟩) := ((knows_in 3 27 (by decide) (by kernel_rfl) rfl rfl) : Knows _ _ _ _ _ _ 4 _ _) a ww hw hf hd
   have f0 : ww.cell? ⟨p, 2, none⟩ = some (Value.slice AS L.length cS) := (hp4.next hw).cell (i := 2) rfl
   revert h27
   generalize a.eval = ev
   intro h27
   unfold execOp
   simp only [h27]
   go_simp)⟩),
     .inr (.inl ⟨rfl, step_ex _ rfl (.inl rfl) rfl (fun a ww hw hf hd => by
   have h0 : a.eval (.tmp 0) = Value.pointer (some ⟨p, 0, none⟩) := ((knows_out 0 (by kernel_rfl) rfl) : Knows _ _ _ _ _ _ 5 _ _) a ww hw hf hd
   revert h0
   generalize a.eval = ev
   intro h0
   unfold execOp
   simp only [h0]
   go_simp)⟩),
     .inr (.inl ⟨rfl, step_ldV rfl (.inl rfl) (fun _ hw => (hB4.next hw).rw.range) rfl Tryz.underlying65 rfl (szV infT (tc_len _)) rfl (knows_out 3 (by kernel_rfl) rfl)⟩),
     .inr (.inl ⟨rfl, step_cw rfl (.inl rfl) rfl cxT155 rfl (fun aa ww hw hf hd => ⟨_, (two_args (knows_in 5 29 (by decide) (by kernel_rfl) rfl rfl) (knows_in 6 30 (by decide) (by kernel_rfl) rfl rfl)) aa ww hw hf hd, (Hsz ww hw)⟩)⟩),
     .inr (.inl ⟨rfl, step_bsl (.inl rfl) rfl Tryz.underlying101 infI (by decide) (by decide) (vs := [Value.int .i64 r]) (by first | kernel_rfl | rfl) rfl (parts1 (knows_in 7 31 (by decide) (by kernel_rfl) rfl rfl))⟩),
     .inl rfl, trivial⟩ _ rfl rfl ?_ ?_
  · intro a ww hw hf hd
    have h28 : a.eval (.tmp 28) = Value.slice AS L.length cS := hd 4 28 (by decide) (by kernel_rfl) rfl
    obtain ⟨b, hb1, hb0, hb2⟩ := hd 8 32 (by decide) (by kernel_rfl) rfl
    exact evt_app rfl rfl Tryz.underlying101 infIb rfl (by decide) (by decide) (row_next rS4 hw) h28 ⟨b, hb1, hb2⟩ rfl (by simp [Value.oneCell']) (by omega)
  intro val W2 W3 hw hS hR
  have e24 : val 24 = Value.pointer (some ⟨p, 0, none⟩) := hS 0 24 (by decide) (by decide) rfl
  have e25 : val 25 = Value.pointer (some ⟨p, 0, none⟩) := hS 1 25 (by decide) (by decide) rfl
  have e26 : val 26 = Value.pointer (some ⟨p, 0, none⟩) := hS 2 26 (by decide) (by decide) rfl
  have e27 : val 27 = Value.pointer (some ⟨p, 2, none⟩) := hS 3 27 (by decide) (by decide) rfl
  have e28 : val 28 = Value.slice AS L.length cS := hS 4 28 (by decide) (by decide) rfl
  have e29 : val 29 = Value.pointer (some ⟨p, 0, none⟩) := hS 5 29 (by decide) (by decide) rfl
  have e30 : val 30 = Value.agg (tc t).toArray := hS 6 30 (by decide) (by decide) rfl
  have e31 : val 31 = Value.int .i64 r := hS 7 31 (by decide) (by decide) rfl
  have hR := hR 33 rfl
  obtain ⟨A33, c33, e33, hl33, hm33, hr33, hg33, ho33⟩ := hR
  rw [e33] at hr33 ho33
  simp only [putVals, List.foldl_cons, List.foldl_nil, List.drop_succ_cons, List.drop_zero, Act.put, List.setIfInBounds_toArray, List.set_cons_succ, List.set_cons_zero, e24, e25, e26, e27, e28, e29, e30, e31, e33]
  generalize val 32 = g32
  clear e24 e25 e26 e27 e28 e29 e30 e31 e33 hS
  have hp5 := hp4.next hw
  have rT5 := row_next rT4 hw
  have rS5 := row_next rS4 hw
  have rX5 := row_next rX4 hw
  have mN5 := map_next mN4 hw
  have mI5 := map_next mI4 hw
  have hB5 := hB4.next hw
  have hp6 := hp5.grown hg33 (blk_ne hp5 rS5 (by decide))
  have rT6 := rT5.kept hg33 (row_ne rT5 rS5 (by decide))
  have rX6 := rX5.kept hg33 (row_ne rX5 rS5 (by decide))
  have mN6 := mN5.kept hg33 (map_ne mN5 rS5)
  have mI6 := mI5.kept hg33 (map_ne mI5 rS5)
  have hB6 := hB5.grown hg33 (fun e => by have := hlt4 _ e.symm; omega)
  have hz4 : w.heap.size ≤ W2.heap.size := Nat.le_trans hC4.size hw.size
  have hC6 := (hC4.next hw).grown hg33 (fun g e => .inl (.inr (.inr (.inr (.inr (.inl (by rw [← e]; exact (own0 _ _ _).symm)))))))
  have c2 := hp6.cell (i := 2) rfl
  have f2 := hp6.free 2
  obtain ⟨W7, hW7⟩ : ∃ W7, W3.setCell ⟨p, 2, none⟩ (.slice A33 (L.length + 1) c33) = W7 := ⟨_, rfl⟩
  have hp7 : Blk W7 p 126 [.bool true, .slice A21 (L.length + 1) c21, .slice A33 (L.length + 1) c33, .map (some mN), .slice AX X.length cX, .map (some mI), .int .i64 n0, .int .i64 n1, .int .i64 n2, .int .i64 n3, .int .i64 n4] := by rw [← hW7]; exact hp6.set 2 _
  have rT7 := row_setC rT6 hp6 (by decide) 2 (.slice A33 (L.length + 1) c33)
  have rS7 := row_setC hr33 hp6 (by decide) 2 (.slice A33 (L.length + 1) c33)
  have rX7 := row_setC rX6 hp6 (by decide) 2 (.slice A33 (L.length + 1) c33)
  have mN7 := mN6.setCell (a := ⟨p, 2, none⟩) (blk_map mN6 hp6) (.slice A33 (L.length + 1) c33)
  have mI7 := mI6.setCell (a := ⟨p, 2, none⟩) (blk_map mI6 hp6) (.slice A33 (L.length + 1) c33)
  have hB7 := hB6.other (a := ⟨p, 2, none⟩) (show p ≠ w.heap.size by omega) (.slice A33 (L.length + 1) c33)
  have hC7 := hC6.setCell (p := ⟨p, 2, none⟩) (.inl (.inl rfl)) (.slice A33 (L.length + 1) c33)
  rw [hW7] at rT7 rS7 rX7 mN7 mI7 hB7 hC7
  have hb33 : ∀ g, (Value.slice A33 0 c33).ownBlock = some g → foot p ⟨AT, cT, AS, cS, mN, AX, cX, mI, [n0, n1, n2, n3, n4]⟩ g ∨ w.heap.size ≤ g := fun g e => by
    rcases ho33 with h | h
    · exact .inl (.inr (.inr (.inr (.inr (.inl ((own0 _ _ _).symm.trans (h.symm.trans ((own0 _ _ _).trans e))))))))
    · have e2 := (own0 A33 (L.length + 1) c33).trans e
      rw [h] at e2; injection e2 with e2; exact .inr (by omega)
  have HW7 := hid hW7
  clear hp4 rT4 rS4 rX4 mN4 mI4 hB4 hp5 rT5 rS5 rX5 mN5 mI5 hB5 hp6 rT6 rX6 mN6 mI6 hB6 hC6 hC4 hg33 ho33 hr33 hw hW7 hz4 hlt4 Hsz
  go_upto_region 6 with (fail)
  rw [HW7.out]
  clear HW7 c2 f2
  refine region_spec2 6 64 (fun _ => false) [Is (Value.pointer (some ⟨p, 0, none⟩)), Is (Value.pointer (some ⟨p, 0, none⟩)), Is (Value.pointer (some ⟨p, 3, none⟩)), Is (Value.map (some mN)), Is (Value.agg (tc t).toArray), Is (Value.int .i64 (L.length : Nat))] [36, 37, 38, 39, 40, 41] (by kernel_rfl) (by kernel_rfl) (by kernel_rfl) (Nat.le_of_eq rfl) (grows_cons (Is.grows _) (grows_cons (Is.grows _) (grows_cons (Is.grows _) (grows_cons (Is.grows _) (grows_cons (Is.grows _) (grows_cons (Is.grows _) grows_nil))))))
    ⟨(step_ex _ rfl (.inl rfl) rfl (fun a ww hw hf hd => by
   have h0 : a.eval (.tmp 0) = Value.pointer (some ⟨p, 0, none⟩) := ((knows_out 0 (by kernel_rfl) rfl) : Knows _ _ _ _ _ _ 0 _ _) a ww hw hf hd
   revert h0
   generalize a.eval = ev
   intro h0
   unfold execOp
   simp only [h0]
   go_simp)),
     (step_ex _ rfl (.inl rfl) rfl (fun a ww hw hf hd => by
   have h36 : a.eval (.tmp 36) = Value.pointer (some ⟨p, 0, none⟩) := ((knows_in 0 36 (by decide) (by kernel_rfl) rfl rfl) : Knows _ _ _ _ _ _ 1 _ _) a ww hw hf hd
   revert h36
   generalize a.eval = ev
   intro h36
   unfold execOp
   simp only [h36]
   go_simp)),
     (step_ex _ rfl (.inl rfl) rfl (fun a ww hw hf hd => by
   have h37 : a.eval (.tmp 37) = Value.pointer (some ⟨p, 0, none⟩) := ((knows_in 1 37 (by decide) (by kernel_rfl) rfl rfl) : Knows _ _ _ _ _ _ 2 _ _) a ww hw hf hd
   revert h37
   generalize a.eval = ev
   intro h37
   unfold execOp
   simp only [h37]
   go_simp)),
     (step_ex _ rfl (.inl rfl) rfl (fun a ww hw hf hd => by
   have h38 : a.eval (.tmp 38) = Value.pointer (some ⟨p, 3, none⟩) := ((knows_in 2 38 (by decide) (by kernel_rfl) rfl rfl) : Knows _ _ _ _ _ _ 3 _ _) a ww hw hf hd
   have f0 : ww.cell? ⟨p, 3, none⟩ = some (Value.map (some mN)) := (hp7.next hw).cell (i := 3) rfl
   revert h38
   generalize a.eval = ev
   intro h38
   unfold execOp
   simp only [h38]
   go_simp)),
     (step_ldV rfl (.inl rfl) (fun _ hw => (hB7.next hw).rw.range) rfl Tryz.underlying65 rfl (szV infT (tc_len _)) rfl (knows_out 3 (by kernel_rfl) rfl)),
     (step_ex _ rfl (.inl rfl) rfl (fun a ww hw hf hd => by
   have h6 : a.eval (.tmp 6) = Value.int .i64 (L.length : Nat) := ((knows_out 6 (by kernel_rfl) rfl) : Knows _ _ _ _ _ _ 5 _ _) a ww hw hf hd
   revert h6
   generalize a.eval = ev
   intro h6
   unfold execOp
   simp only [h6]
   go_simp)), trivial⟩ ?_
  intro val W8 hw hS _ _
  have e36 : val 36 = Value.pointer (some ⟨p, 0, none⟩) := hS 0 36 (by decide) rfl
  have e37 : val 37 = Value.pointer (some ⟨p, 0, none⟩) := hS 1 37 (by decide) rfl
  have e38 : val 38 = Value.pointer (some ⟨p, 3, none⟩) := hS 2 38 (by decide) rfl
  have e39 : val 39 = Value.map (some mN) := hS 3 39 (by decide) rfl
  have e40 : val 40 = Value.agg (tc t).toArray := hS 4 40 (by decide) rfl
  have e41 : val 41 = Value.int .i64 (L.length : Nat) := hS 5 41 (by decide) rfl
  simp only [putVals, List.foldl_cons, List.foldl_nil, List.drop_succ_cons, List.drop_zero, Act.put, List.setIfInBounds_toArray, List.set_cons_succ, List.set_cons_zero, e36, e37, e38, e39, e40, e41]
  clear e36 e37 e38 e39 e40 e41 hS
  have hp8 := hp7.next hw
  have rT8 := row_next rT7 hw
  have rS8 := row_next rS7 hw
  have rX8 := row_next rX7 hw
  have mN8 := map_next mN7 hw
  have mI8 := map_next mI7 hw
  have hB8 := hB7.next hw
  have hC8 := hC7.next hw
  have hnlt : L.length < maxLen := by unfold maxLen; omega
  have hpe := plainElem_int (H := Unit) Tryz.underlying3 (q := .i64) (a := (L.length : Int)) (WalkArith.wf_i64 (by omega))
  go_upto_region 7 with (at_mapUpdate; refine wpList_mapUpdate_own _ rfl _ _ _ 121 rfl 65 3 lawT Tryz.underlying121 _ mN L.length DN rfl mN8 hnlt _ _ (tk t) rfl rfl (key_of t ht) (i64 L.length) [] hpe ?_; intro W9 mN9 hg9)
  have hnN : ∀ {b t : Nat} {cs : List Value}, Blk W8 b t cs → some b ≠ some mN := fun h e => by injection e with e; exact blk_map mN8 h e.symm
  have hnR : ∀ {e s n : Nat} {v : Value} {xs : List Value}, W8.ownsRow 0 e s v n xs → v.ownBlock = none ∨ v.ownBlock ≠ some mN := fun h => .inr fun e => map_ne mN8 h e.symm
  have hp9 := hp8.grown hg9 (hnN hp8)
  have rT9 := rT8.kept hg9 (hnR rT8)
  have rS9 := rS8.kept hg9 (hnR rS8)
  have rX9 := rX8.kept hg9 (hnR rX8)
  have hB9 := hB8.grown hg9 (hnN hB8)
  have mI9 := mI8.kept hg9 (fun e => hNI (by injection e))
  have hC9 := hC8.grown hg9 (fun g e => .inl (.inr (.inl (by injection e with e; exact e.symm))))
  clear hp7 rT7 rS7 rX7 mN7 mI7 hB7 hC7 hp8 rT8 rS8 rX8 mN8 mI8 hB8 hC8 hg9 hnN hnR hw hpe hnlt
  have hk := HK.out
  have hk1 : (t.1 == 1) = true := by rw [hk]; rfl
  have hk0 : t.1 = 1 := by rw [hk]
  obtain ⟨mi, hmi⟩ : ∃ m, (if (4611686018427387904 : Int) < tb then 4611686018427387904 else tb) = m := ⟨_, rfl⟩
  obtain ⟨mx, hmx⟩ : ∃ m, (if (mi + 1 : Int) > n1 then mi + 1 else n1) = m := ⟨_, rfl⟩
  have hmi0 : 0 ≤ mi ∧ mi ≤ 4611686018427387904 := by rw [← hmi]; split <;> omega
  have hwm : IntKind.i64.wrap (mi + 1) = mi + 1 := IntWalk.i64_in _ ⟨by omega, by omega⟩
  have hbump : [n0, mx, n2, n3, n4] = updN [n0, n1, n2, n3, n4] t := by
    rw [hk]
    simp only [updN, bump, hmi]
    simp [← hmx, List.getD]
  have Hmi := hid hmi
  have Hmx := hid hmx
  have HBU := hid hbump
  clear hmi hmx hmi0 hbump
  subst hk
  clear hk0
  have x0 := hB9.cell (i := 0) rfl
  dsimp only at hk1
  go_upto_region 8 with (fail)
  clear x0 hk1
  refine region_spec2 18 64 (fun _ => false) [Is (Value.pointer (some ⟨p, 0, none⟩)), Is (Value.pointer (some ⟨w.heap.size, 1, none⟩)), Is (Value.int .i64 1), Is (Value.pointer (some ⟨p, 0, none⟩)), Is (Value.pointer (some ⟨w.heap.size, 1, none⟩)), Is (Value.int .i64 1), Is (Value.pointer (some ⟨p, 0, none⟩)), Is (Value.pointer (some ⟨p, 6, none⟩)), Is (Value.pointer (some ⟨p, 7, none⟩)), Is (Value.int .i64 n1), Is (Value.pointer (some ⟨w.heap.size, 2, none⟩)), Is (Value.int .i64 tb), Is (Value.int .i64 mi), Is (Value.int .i64 (mi + 1)), Is (Value.int .i64 mx), Is (Value.pointer (some ⟨p, 0, none⟩)), Is (Value.pointer (some ⟨p, 6, none⟩)), Is (Value.pointer (some ⟨p, 7, none⟩))] [45, 46, 47, 48, 49, 50, 51, 52, 53, 54, 55, 56, 57, 58, 59, 60, 61, 62] (by kernel_rfl) (by kernel_rfl) (by kernel_rfl) (Nat.le_of_eq rfl) (grows_cons (Is.grows _) (grows_cons (Is.grows _) (grows_cons (Is.grows _) (grows_cons (Is.grows _) (grows_cons (Is.grows _) (grows_cons (Is.grows _) (grows_cons (Is.grows _) (grows_cons (Is.grows _) (grows_cons (Is.grows _) (grows_cons (Is.grows _) (grows_cons (Is.grows _) (grows_cons (Is.grows _) (grows_cons (Is.grows _) (grows_cons (Is.grows _) (grows_cons (Is.grows _) (grows_cons (Is.grows _) (grows_cons (Is.grows _) (grows_cons (Is.grows _) grows_nil))))))))))))))))))
    ⟨(step_ex _ rfl (.inl rfl) rfl (fun a ww hw hf hd => by
   have h0 : a.eval (.tmp 0) = Value.pointer (some ⟨p, 0, none⟩) := ((knows_out 0 (by kernel_rfl) rfl) : Knows _ _ _ _ _ _ 0 _ _) a ww hw hf hd
   revert h0
   generalize a.eval = ev
   intro h0
   unfold execOp
   simp only [h0]
   go_simp)),
     (step_ex _ rfl (.inl rfl) rfl (fun a ww hw hf hd => by
   have h3 : a.eval (.tmp 3) = Value.pointer (some ⟨w.heap.size, 0, none⟩) := ((knows_out 3 (by kernel_rfl) rfl) : Knows _ _ _ _ _ _ 1 _ _) a ww hw hf hd
   revert h3
   generalize a.eval = ev
   intro h3
   unfold execOp
   simp only [h3]
   go_simp)),
     (step_ex _ rfl (.inl rfl) rfl (fun a ww hw hf hd => by
   have h46 : a.eval (.tmp 46) = Value.pointer (some ⟨w.heap.size, 1, none⟩) := ((knows_in 1 46 (by decide) (by kernel_rfl) rfl rfl) : Knows _ _ _ _ _ _ 2 _ _) a ww hw hf hd
   have f0 : ww.cell? ⟨w.heap.size, 1, none⟩ = some (Value.int .i64 1) := (hB9.next hw).cell (i := 1) rfl
   revert h46
   generalize a.eval = ev
   intro h46
   unfold execOp
   simp only [h46]
   go_simp)),
     (step_ex _ rfl (.inl rfl) rfl (fun a ww hw hf hd => by
   have h0 : a.eval (.tmp 0) = Value.pointer (some ⟨p, 0, none⟩) := ((knows_out 0 (by kernel_rfl) rfl) : Knows _ _ _ _ _ _ 3 _ _) a ww hw hf hd
   revert h0
   generalize a.eval = ev
   intro h0
   unfold execOp
   simp only [h0]
   go_simp)),
     (step_ex _ rfl (.inl rfl) rfl (fun a ww hw hf hd => by
   have h3 : a.eval (.tmp 3) = Value.pointer (some ⟨w.heap.size, 0, none⟩) := ((knows_out 3 (by kernel_rfl) rfl) : Knows _ _ _ _ _ _ 4 _ _) a ww hw hf hd
   revert h3
   generalize a.eval = ev
   intro h3
   unfold execOp
   simp only [h3]
   go_simp)),
     (step_ex _ rfl (.inl rfl) rfl (fun a ww hw hf hd => by
   have h49 : a.eval (.tmp 49) = Value.pointer (some ⟨w.heap.size, 1, none⟩) := ((knows_in 4 49 (by decide) (by kernel_rfl) rfl rfl) : Knows _ _ _ _ _ _ 5 _ _) a ww hw hf hd
   have f0 : ww.cell? ⟨w.heap.size, 1, none⟩ = some (Value.int .i64 1) := (hB9.next hw).cell (i := 1) rfl
   revert h49
   generalize a.eval = ev
   intro h49
   unfold execOp
   simp only [h49]
   go_simp)),
     (step_ex _ rfl (.inl rfl) rfl (fun a ww hw hf hd => by
   have h48 : a.eval (.tmp 48) = Value.pointer (some ⟨p, 0, none⟩) := ((knows_in 3 48 (by decide) (by kernel_rfl) rfl rfl) : Knows _ _ _ _ _ _ 6 _ _) a ww hw hf hd
   revert h48
   generalize a.eval = ev
   intro h48
   unfold execOp
   simp only [h48]
   go_simp)),
     (step_ex _ rfl (.inl rfl) rfl (fun a ww hw hf hd => by
   have h51 : a.eval (.tmp 51) = Value.pointer (some ⟨p, 0, none⟩) := ((knows_in 6 51 (by decide) (by kernel_rfl) rfl rfl) : Knows _ _ _ _ _ _ 7 _ _) a ww hw hf hd
   revert h51
   generalize a.eval = ev
   intro h51
   unfold execOp
   simp only [h51]
   go_simp)),
     (step_ex _ rfl (.inl rfl) rfl (fun a ww hw hf hd => by
   have h52 : a.eval (.tmp 52) = Value.pointer (some ⟨p, 6, none⟩) := ((knows_in 7 52 (by decide) (by kernel_rfl) rfl rfl) : Knows _ _ _ _ _ _ 8 _ _) a ww hw hf hd
   have h50 : a.eval (.tmp 50) = Value.int .i64 1 := ((knows_in 5 50 (by decide) (by kernel_rfl) rfl rfl) : Knows _ _ _ _ _ _ 8 _ _) a ww hw hf hd
   revert h52 h50
   generalize a.eval = ev
   intro h52 h50
   unfold execOp
   simp only [h52, h50]
   go_simp)),
     (step_ex _ rfl (.inl rfl) rfl (fun a ww hw hf hd => by
   have h53 : a.eval (.tmp 53) = Value.pointer (some ⟨p, 7, none⟩) := ((knows_in 8 53 (by decide) (by kernel_rfl) rfl rfl) : Knows _ _ _ _ _ _ 9 _ _) a ww hw hf hd
   have f0 : ww.cell? ⟨p, 7, none⟩ = some (Value.int .i64 n1) := (hp9.next hw).cell (i := 7) rfl
   revert h53
   generalize a.eval = ev
   intro h53
   unfold execOp
   simp only [h53]
   go_simp)),
     (step_ex _ rfl (.inl rfl) rfl (fun a ww hw hf hd => by
   have h3 : a.eval (.tmp 3) = Value.pointer (some ⟨w.heap.size, 0, none⟩) := ((knows_out 3 (by kernel_rfl) rfl) : Knows _ _ _ _ _ _ 10 _ _) a ww hw hf hd
   revert h3
   generalize a.eval = ev
   intro h3
   unfold execOp
   simp only [h3]
   go_simp)),
     (step_ex _ rfl (.inl rfl) rfl (fun a ww hw hf hd => by
   have h55 : a.eval (.tmp 55) = Value.pointer (some ⟨w.heap.size, 2, none⟩) := ((knows_in 10 55 (by decide) (by kernel_rfl) rfl rfl) : Knows _ _ _ _ _ _ 11 _ _) a ww hw hf hd
   have f0 : ww.cell? ⟨w.heap.size, 2, none⟩ = some (Value.int .i64 tb) := (hB9.next hw).cell (i := 2) rfl
   revert h55
   generalize a.eval = ev
   intro h55
   unfold execOp
   simp only [h55]
   go_simp)),
     (step_min rfl (.inl rfl) rfl rfl Hmi.out (knows_in 11 56 (by decide) (by kernel_rfl) rfl rfl) (knows_const _)),
     (step_ex _ rfl (.inl rfl) rfl (fun a ww hw hf hd => by
   have h57 : a.eval (.tmp 57) = Value.int .i64 mi := ((knows_in 12 57 (by decide) (by kernel_rfl) rfl rfl) : Knows _ _ _ _ _ _ 13 _ _) a ww hw hf hd
   have f0 := hwm
   have hc := ec a
   revert hc h57
   generalize a.eval = ev
   intro hc h57
   unfold execOp
   simp only [hc, h57]
   go_simp)),
     (step_max rfl (.inl rfl) rfl rfl Hmx.out (knows_in 9 54 (by decide) (by kernel_rfl) rfl rfl) (knows_in 13 58 (by decide) (by kernel_rfl) rfl rfl)),
     (step_ex _ rfl (.inl rfl) rfl (fun a ww hw hf hd => by
   have h45 : a.eval (.tmp 45) = Value.pointer (some ⟨p, 0, none⟩) := ((knows_in 0 45 (by decide) (by kernel_rfl) rfl rfl) : Knows _ _ _ _ _ _ 15 _ _) a ww hw hf hd
   revert h45
   generalize a.eval = ev
   intro h45
   unfold execOp
   simp only [h45]
   go_simp)),
     (step_ex _ rfl (.inl rfl) rfl (fun a ww hw hf hd => by
   have h60 : a.eval (.tmp 60) = Value.pointer (some ⟨p, 0, none⟩) := ((knows_in 15 60 (by decide) (by kernel_rfl) rfl rfl) : Knows _ _ _ _ _ _ 16 _ _) a ww hw hf hd
   revert h60
   generalize a.eval = ev
   intro h60
   unfold execOp
   simp only [h60]
   go_simp)),
     (step_ex _ rfl (.inl rfl) rfl (fun a ww hw hf hd => by
   have h61 : a.eval (.tmp 61) = Value.pointer (some ⟨p, 6, none⟩) := ((knows_in 16 61 (by decide) (by kernel_rfl) rfl rfl) : Knows _ _ _ _ _ _ 17 _ _) a ww hw hf hd
   have h47 : a.eval (.tmp 47) = Value.int .i64 1 := ((knows_in 2 47 (by decide) (by kernel_rfl) rfl rfl) : Knows _ _ _ _ _ _ 17 _ _) a ww hw hf hd
   revert h61 h47
   generalize a.eval = ev
   intro h61 h47
   unfold execOp
   simp only [h61, h47]
   go_simp)), trivial⟩ ?_
  intro val W10 hw hS _ _
  have e45 : val 45 = Value.pointer (some ⟨p, 0, none⟩) := hS 0 45 (by decide) rfl
  have e46 : val 46 = Value.pointer (some ⟨w.heap.size, 1, none⟩) := hS 1 46 (by decide) rfl
  have e47 : val 47 = Value.int .i64 1 := hS 2 47 (by decide) rfl
  have e48 : val 48 = Value.pointer (some ⟨p, 0, none⟩) := hS 3 48 (by decide) rfl
  have e49 : val 49 = Value.pointer (some ⟨w.heap.size, 1, none⟩) := hS 4 49 (by decide) rfl
  have e50 : val 50 = Value.int .i64 1 := hS 5 50 (by decide) rfl
  have e51 : val 51 = Value.pointer (some ⟨p, 0, none⟩) := hS 6 51 (by decide) rfl
  have e52 : val 52 = Value.pointer (some ⟨p, 6, none⟩) := hS 7 52 (by decide) rfl
  have e53 : val 53 = Value.pointer (some ⟨p, 7, none⟩) := hS 8 53 (by decide) rfl
  have e54 : val 54 = Value.int .i64 n1 := hS 9 54 (by decide) rfl
  have e55 : val 55 = Value.pointer (some ⟨w.heap.size, 2, none⟩) := hS 10 55 (by decide) rfl
  have e56 : val 56 = Value.int .i64 tb := hS 11 56 (by decide) rfl
  have e57 : val 57 = Value.int .i64 mi := hS 12 57 (by decide) rfl
  have e58 : val 58 = Value.int .i64 (mi + 1) := hS 13 58 (by decide) rfl
  have e59 : val 59 = Value.int .i64 mx := hS 14 59 (by decide) rfl
  have e60 : val 60 = Value.pointer (some ⟨p, 0, none⟩) := hS 15 60 (by decide) rfl
  have e61 : val 61 = Value.pointer (some ⟨p, 6, none⟩) := hS 16 61 (by decide) rfl
  have e62 : val 62 = Value.pointer (some ⟨p, 7, none⟩) := hS 17 62 (by decide) rfl
  simp only [putVals, List.foldl_cons, List.foldl_nil, List.drop_succ_cons, List.drop_zero, Act.put, List.setIfInBounds_toArray, List.set_cons_succ, List.set_cons_zero, e45, e46, e47, e48, e49, e50, e51, e52, e53, e54, e55, e56, e57, e58, e59, e60, e61, e62]
  clear e45 e46 e47 e48 e49 e50 e51 e52 e53 e54 e55 e56 e57 e58 e59 e60 e61 e62 hS
  have hp10 := hp9.next hw
  have c10 := hp10.cell (i := 7) rfl
  have f10 := hp10.free 7
  obtain ⟨W11, hW11⟩ : ∃ W11, W10.setCell ⟨p, 7, none⟩ (.int .i64 mx) = W11 := ⟨_, rfl⟩
  have hp11 : Blk W11 p 126 ((Lay.mk A21 c21 A33 c33 mN AX cX mI [n0, mx, n2, n3, n4]).cells (L.length + 1) X.length) := by rw [← hW11]; exact hp10.set 7 _
  have rT11 := row_setC (row_next rT9 hw) hp10 (by decide) 7 (.int .i64 mx)
  have rS11 := row_setC (row_next rS9 hw) hp10 (by decide) 7 (.int .i64 mx)
  have rX11 := row_setC (row_next rX9 hw) hp10 (by decide) 7 (.int .i64 mx)
  have mN11 := (map_next mN9 hw).setCell (a := ⟨p, 7, none⟩) (blk_map (map_next mN9 hw) hp10) (.int .i64 mx)
  have mI11 := (map_next mI9 hw).setCell (a := ⟨p, 7, none⟩) (blk_map (map_next mI9 hw) hp10) (.int .i64 mx)
  have h11C := (hC9.next hw).setCell (p := ⟨p, 7, none⟩) (.inl (.inl rfl)) (.int .i64 mx)
  rw [hW11] at rT11 rS11 rX11 mN11 mI11 h11C
  have HW11 := hid hW11
  clear hW11 hw hp9 rT9 rS9 rX9 mN9 mI9 hB9 hC9 hp10
  go_upto_region 9 with (fail)
  rw [HW11.out]
  clear HW11 c10 f10
  go_wp2
  go_ret2
  have hlen : (L ++ [(1, 1, tb)]).length = L.length + 1 := by simp
  have hfl : flatZ (L ++ [(1, 1, tb)]) = flatZ L ++ tc (1, 1, tb) := by rw [flat_appZ, flat_one]
  have hzz : ints .i64 (zs ++ [r]) = ints .i64 zs ++ [Value.int .i64 r] := ints_app _ _ _
  refine ⟨rfl, ⟨A21, c21, A33, c33, mN, AX, cX, mI, [n0, mx, n2, n3, n4]⟩, HBU.out, rfl, rfl, ?_, h11C, fun b hb => ?_⟩
  · rw [HR.out]
    refine ⟨by rw [hlen]; exact hp11, by rw [hlen, hfl]; exact rT11, by rw [hlen, hzz]; exact rS11, rX11, by rw [hlen]; exact mN11, mI11⟩
  · rcases hb with h | h | h | h | h | h
    · exact .inl (.inl h)
    · exact .inl (.inr (.inl h))
    · exact .inl (.inr (.inr (.inl h)))
    · exact hb21 b h
    · exact hb33 b h
    · exact .inl (.inr (.inr (.inr (.inr (.inr h)))))
set_option maxRecDepth 50000 in
set_option maxHeartbeats 4000000 in
theorem add_atom2 (p : Nat) (AT AS AX : Option Addr) (cT cS mN cX mI : Nat) (n0 n1 n2 n3 n4 : Int) (zs : List Int) (DN DI : D0) (L : List T3) (X : List (List Int)) (t : T3) (tb : Int) (hk : t = (1, 2, tb)) (hb0 : 0 ≤ tb) (hb1 : n2 ≤ 4611686018427387905) (hb2 : 0 ≤ n2) (hNI : mI ≠ mN) (w : World) (hT : TS w p ⟨AT, cT, AS, cS, mN, AX, cX, mI, [n0, n1, n2, n3, n4]⟩ zs DN DI L X) (ht : Twf t) (hzl : zs.length = L.length) (hzb : ∀ z ∈ zs, 1 ≤ z ∧ z ≤ 1048576) (hL : L.length ≤ 40) (x : Nat) (hwf : WFt L.length x t) :
    Calls Tryz.prog 101 #[.pointer (some ⟨p, 0, none⟩), tv t] w fun e w' => e = .returned (.tuple #[.int .i64 L.length, .int .i64 0]) ∧ AddR p ⟨AT, cT, AS, cS, mN, AX, cX, mI, [n0, n1, n2, n3, n4]⟩ zs DN DI L X t w w' := by
  have HK := hid hk
  clear hk
  obtain ⟨W, hW, d0, d1, d2, hB, hB3⟩ := term_world t w
  have hT1 := hT.next hB
  have hC1 : Chg (foot p ⟨AT, cT, AS, cS, mN, AX, cX, mI, [n0, n1, n2, n3, n4]⟩) w W := Chg.of hB _
  have c1 : W.cell? ⟨p, 1, none⟩ = some (.slice AT L.length cT) := hT1.blk.cell (i := 1) rfl
  have hlt3 : ∀ g, (Value.slice AT L.length cT).ownBlock = some g → g < w.heap.size := rowlt hT.rT
  have hlt4 : ∀ g, (Value.slice AS L.length cS).ownBlock = some g → g < w.heap.size := rowlt hT.rS
  have hltN := hT.mN.lt
  have hltp := hT.blk.lt
  obtain ⟨r, hr⟩ : ∃ r, szOf zs t = r := ⟨_, rfl⟩
  have HR := hid hr
  have hne : ((L.length : Int) == 65536) = false := beq_false_of_ne (by omega)
  have HW := hid hW
  clear hr hW d0 d1 d2
  unfold tv
  go_enter Tryz.func101, Tryz.ntmps101
  go_upto_region 1 with (fail)
  rw [HW.out]
  clear HW hT hB
  go_upto_region 4 with (fail)
  clear c1 hne
  refine region_evt 8 7 64 [false, true, true, true, true, true, true, false] [Is (Value.pointer (some ⟨p, 0, none⟩)), Is (Value.pointer (some ⟨p, 0, none⟩)), Is (Value.pointer (some ⟨p, 0, none⟩)), Is (Value.pointer (some ⟨p, 1, none⟩)), Is (Value.slice AT L.length cT), Is (Value.agg (tc t).toArray), IsRowV W.heap.size 1 (tc t), (fun _ _ => True)] [14, 15, 16, 17, 18, 19, 20, 21] (AppR 65 3 (.slice AT L.length cT) L.length (flatZ L) (tc t)) (by kernel_rfl) (by kernel_rfl) (by kernel_rfl) (Nat.le_of_eq rfl) (grows_cons (Is.grows _) (grows_cons (Is.grows _) (grows_cons (Is.grows _) (grows_cons (Is.grows _) (grows_cons (Is.grows _) (grows_cons (Is.grows _) (grows_cons (IsRowV.grows _ _ _) (grows_cons (fun _ _ _ _ _ => trivial) grows_nil))))))))
    ⟨.inr (.inr ⟨rfl, pure_ex (Value.pointer (some ⟨p, 0, none⟩)) rfl rfl (fun a w0 ww hw hf hd => by
   have h0 : a.eval (.tmp 0) = Value.pointer (some ⟨p, 0, none⟩) := ((knows_out 0 (by kernel_rfl) rfl) : Knows _ _ _ _ _ _ 0 _ _) a w0 hw hf hd
   revert h0
   generalize a.eval = ev
   intro h0
   unfold execOp
   simp only [h0]
   go_simp)⟩),
     .inr (.inl ⟨rfl, step_ex _ rfl (.inl rfl) rfl (fun a ww hw hf hd => by
   have h0 : a.eval (.tmp 0) = Value.pointer (some ⟨p, 0, none⟩) := ((knows_out 0 (by kernel_rfl) rfl) : Knows _ _ _ _ _ _ 1 _ _) a ww hw hf hd
   revert h0
   generalize a.eval = ev
   intro h0
   unfold execOp
   simp only [h0]
   go_simp)⟩),
     .inr (.inl ⟨rfl, step_ex _ rfl (.inl rfl) rfl (fun a ww hw hf hd => by
   have h15 : a.eval (.tmp 15) = Value.pointer (some ⟨p, 0, none⟩) := ((knows_in 1 15 (by decide) (by kernel_rfl) rfl rfl) : Knows _ _ _ _ _ _ 2 _ _) a ww hw hf hd
   revert h15
   generalize a.eval = ev
   intro h15
   unfold execOp
   simp only [h15]
   go_simp)⟩),
     .inr (.inl ⟨rfl, step_ex _ rfl (.inl rfl) rfl (fun a ww hw hf hd => by
   have h16 : a.eval (.tmp 16) = Value.pointer (some ⟨p, 0, none⟩) := ((knows_in 2 16 (by decide) (by kernel_rfl) rfl rfl) : Knows _ _ _ _ _ _ 3 _ _) a ww hw hf hd
   revert h16
   generalize a.eval = ev
   intro h16
   unfold execOp
   simp only [h16]
   go_simp)⟩),
     .inr (.inl ⟨rfl, step_ex _ rfl (.inl rfl) rfl (fun a ww hw hf hd => by
   have h17 : a.eval (.tmp 17) = Value.pointer (some ⟨p, 1, none⟩) := ((knows_in 3 17 (by decide) (by kernel_rfl) rfl rfl) : Knows _ _ _ _ _ _ 4 _ _) a ww hw hf hd
   have f0 : ww.cell? ⟨p, 1, none⟩ = some (Value.slice AT L.length cT) := (hT1.blk.next hw).cell (i := 1) rfl
   revert h17
   generalize a.eval = ev
   intro h17
   unfold execOp
   simp only [h17]
   go_simp)⟩),
     .inr (.inl ⟨rfl, step_ldV rfl (.inl rfl) (fun _ hw => (hB3.next hw).rw.range) rfl Tryz.underlying65 rfl (szV infT (tc_len _)) rfl (knows_out 3 (by kernel_rfl) rfl)⟩),
     .inr (.inl ⟨rfl, step_bsl (.inl rfl) rfl Tryz.underlying120 infT (by decide) (by decide) (vs := (tc t)) (by first | kernel_rfl | rfl) rfl (parts1 (knows_in 5 19 (by decide) (by kernel_rfl) rfl rfl))⟩),
     .inl rfl, trivial⟩ _ rfl rfl ?_ ?_
  · intro a ww hw hf hd
    have h18 : a.eval (.tmp 18) = Value.slice AT L.length cT := hd 4 18 (by decide) (by kernel_rfl) rfl
    obtain ⟨b, hb1, hb0, hb2⟩ := hd 6 20 (by decide) (by kernel_rfl) rfl
    exact evt_app rfl rfl Tryz.underlying120 infTb rfl (by decide) (by decide) (row_next hT1.rT hw) h18 ⟨b, hb1, hb2⟩ rfl (tc_one t) (by omega)
  intro val W2 W3 hw hS hR
  have e14 : val 14 = Value.pointer (some ⟨p, 0, none⟩) := hS 0 14 (by decide) (by decide) rfl
  have e15 : val 15 = Value.pointer (some ⟨p, 0, none⟩) := hS 1 15 (by decide) (by decide) rfl
  have e16 : val 16 = Value.pointer (some ⟨p, 0, none⟩) := hS 2 16 (by decide) (by decide) rfl
  have e17 : val 17 = Value.pointer (some ⟨p, 1, none⟩) := hS 3 17 (by decide) (by decide) rfl
  have e18 : val 18 = Value.slice AT L.length cT := hS 4 18 (by decide) (by decide) rfl
  have e19 : val 19 = Value.agg (tc t).toArray := hS 5 19 (by decide) (by decide) rfl
  have hR := hR 21 rfl
  obtain ⟨A21, c21, e21, hl21, hm21, hr21, hg21, ho21⟩ := hR
  rw [e21] at hr21 ho21
  simp only [putVals, List.foldl_cons, List.foldl_nil, List.drop_succ_cons, List.drop_zero, Act.put, List.setIfInBounds_toArray, List.set_cons_succ, List.set_cons_zero, e14, e15, e16, e17, e18, e19, e21]
  generalize val 20 = g20
  clear e14 e15 e16 e17 e18 e19 e21 hS
  have hT2 := hT1.next hw
  have hp3 := hT2.blk.grown hg21 (blk_ne hT2.blk hT2.rT (by decide))
  have rS3 := hT2.rS.kept hg21 (row_ne hT2.rS hT2.rT (by decide))
  have rX3 := hT2.rX.kept hg21 (row_ne hT2.rX hT2.rT (by decide))
  have mN3 := hT2.mN.kept hg21 (map_ne hT2.mN hT2.rT)
  have mI3 := hT2.mI.kept hg21 (map_ne hT2.mI hT2.rT)
  have hB33 := (hB3.next hw).grown hg21 (fun e => by have := hlt3 _ e.symm; omega)
  have hz2 : w.heap.size ≤ W2.heap.size := Nat.le_trans hC1.size hw.size
  have hC3 := (hC1.next hw).grown hg21 (fun g e => .inl (.inr (.inr (.inr (.inl (by rw [← e]; exact (own0 _ _ _).symm))))))
  have c1 := hp3.cell (i := 1) rfl
  have f1 := hp3.free 1
  obtain ⟨W4, hW4⟩ : ∃ W4, W3.setCell ⟨p, 1, none⟩ (.slice A21 (L.length + 1) c21) = W4 := ⟨_, rfl⟩
  have hp4 : Blk W4 p 126 [.bool true, .slice A21 (L.length + 1) c21, .slice AS L.length cS, .map (some mN), .slice AX X.length cX, .map (some mI), .int .i64 n0, .int .i64 n1, .int .i64 n2, .int .i64 n3, .int .i64 n4] := by rw [← hW4]; exact hp3.set 1 _
  have rT4 := row_setC hr21 hp3 (by decide) 1 (.slice A21 (L.length + 1) c21)
  have rS4 := row_setC rS3 hp3 (by decide) 1 (.slice A21 (L.length + 1) c21)
  have rX4 := row_setC rX3 hp3 (by decide) 1 (.slice A21 (L.length + 1) c21)
  have mN4 := mN3.setCell (a := ⟨p, 1, none⟩) (blk_map mN3 hp3) (.slice A21 (L.length + 1) c21)
  have mI4 := mI3.setCell (a := ⟨p, 1, none⟩) (blk_map mI3 hp3) (.slice A21 (L.length + 1) c21)
  have hB4 := hB33.other (a := ⟨p, 1, none⟩) (show p ≠ w.heap.size by omega) (.slice A21 (L.length + 1) c21)
  have hC4 := hC3.setCell (p := ⟨p, 1, none⟩) (.inl (.inl rfl)) (.slice A21 (L.length + 1) c21)
  rw [hW4] at rT4 rS4 rX4 mN4 mI4 hB4 hC4
  have hb21 : ∀ g, (Value.slice A21 0 c21).ownBlock = some g → foot p ⟨AT, cT, AS, cS, mN, AX, cX, mI, [n0, n1, n2, n3, n4]⟩ g ∨ w.heap.size ≤ g := fun g e => by
    rcases ho21 with h | h
    · exact .inl (.inr (.inr (.inr (.inl ((own0 _ _ _).symm.trans (h.symm.trans ((own0 _ _ _).trans e)))))))
    · have e2 := (own0 A21 (L.length + 1) c21).trans e
      rw [h] at e2; injection e2 with e2; exact .inr (by omega)
  have HW4 := hid hW4
  clear hT1 hT2 hp3 rS3 rX3 mN3 mI3 hB33 hB3 hC3 hC1 hg21 ho21 hr21 hw hW4 hz2 hlt3
  have Hsz : ∀ ww, Cl W4 ww → Calls Tryz.prog 155 #[.pointer (some ⟨p, 0, none⟩), tv t] ww fun e w' => e = .returned (.int .i64 r) ∧ Below ww.heap.size ww w' := fun ww hw => by
    have hS4 : Owns ww 0 3 .i64 (.slice AS zs.length cS) zs := by
      have := row_next rS4 hw
      rw [← hzl] at this
      exact this
    have h := size_any p cS x AS zs t ww (by rw [hzl]; exact hwf) (by rw [hzl]; exact (hp4.next hw).cell (i := 2) rfl) hS4.nums hzb
    rw [HR.out] at h
    exact h
  go_upto_region 5 with (fail)
  rw [HW4.out]
  clear HW4 c1 f1
  skip
  refine region_evt 10 9 64 [false, true, true, true, true, true, true, true, true, false] [Is (Value.pointer (some ⟨p, 0, none⟩)), Is (Value.pointer (some ⟨p, 0, none⟩)), Is (Value.pointer (some ⟨p, 0, none⟩)), Is (Value.pointer (some ⟨p, 2, none⟩)), Is (Value.slice AS L.length cS), Is (Value.pointer (some ⟨p, 0, none⟩)), Is (Value.agg (tc t).toArray), Is (Value.int .i64 r), IsRowV W4.heap.size 1 [Value.int .i64 r], (fun _ _ => True)] [24, 25, 26, 27, 28, 29, 30, 31, 32, 33] (AppR 3 1 (.slice AS L.length cS) L.length (ints .i64 zs) [Value.int .i64 r]) (by kernel_rfl) (by kernel_rfl) (by kernel_rfl) (Nat.le_of_eq rfl) (grows_cons (Is.grows _) (grows_cons (Is.grows _) (grows_cons (Is.grows _) (grows_cons (Is.grows _) (grows_cons (Is.grows _) (grows_cons (Is.grows _) (grows_cons (Is.grows _) (grows_cons (Is.grows _) (grows_cons (IsRowV.grows _ _ _) (grows_cons (fun _ _ _ _ _ => trivial) grows_nil))))))))))
    ⟨.inr (.inr ⟨rfl, pure_ex (Value.pointer (some ⟨p, 0, none⟩)) rfl rfl (fun a w0 ww hw hf hd => by
   have h0 : a.eval (.tmp 0) = Value.pointer (some ⟨p, 0, none⟩) := ((knows_out 0 (by kernel_rfl) rfl) : Knows _ _ _ _ _ _ 0 _ _) a w0 hw hf hd
   revert h0
   generalize a.eval = ev
   intro h0
   unfold execOp
   simp only [h0]
   go_simp)⟩),
     .inr (.inl ⟨rfl, step_ex _ rfl (.inl rfl) rfl (fun a ww hw hf hd => by
   have h0 : a.eval (.tmp 0) = Value.pointer (some ⟨p, 0, none⟩) := ((knows_out 0 (by kernel_rfl) rfl) : Knows _ _ _ _ _ _ 1 _ _) a ww hw hf hd
   revert h0
   generalize a.eval = ev
   intro h0
   unfold execOp
   simp only [h0]
   go_simp)⟩),
     .inr (.inl ⟨rfl, step_ex _ rfl (.inl rfl) rfl (fun a ww hw hf hd => by
   have h25 : a.eval (.tmp 25) = Value.pointer (some ⟨p, 0, none⟩) := ((knows_in 1 25 (by decide) (by kernel_rfl) rfl rfl) : Knows _ _ _ _ _ _ 2 _ _) a ww hw hf hd
   revert h25
   generalize a.eval = ev
   intro h25
   unfold execOp
   simp only [h25]
   go_simp)⟩),
     .inr (.inl ⟨rfl, step_ex _ rfl (.inl rfl) rfl (fun a ww hw hf hd => by
   have h26 : a.eval (.tmp 26) = Value.pointer (some ⟨p, 0, none⟩) := ((knows_in 2 26 (by decide) (by kernel_rfl) rfl rfl) : Knows _ _ _ _ _ _ 3 _ _) a ww hw hf hd
   revert h26
   generalize a.eval = ev
   intro h26
   unfold execOp
   simp only [h26]
   go_simp)⟩),
     .inr (.inl ⟨rfl, step_ex _ rfl (.inl rfl) rfl (fun a ww hw hf hd => by
   have h27 : a.eval (.tmp 27) = Value.pointer (some ⟨p, 2, none⟩) := ((knows_in 3 27 (by decide) (by kernel_rfl) rfl rfl) : Knows _ _ _ _ _ _ 4 _ _) a ww hw hf hd
   have f0 : ww.cell? ⟨p, 2, none⟩ = some (Value.slice AS L.length cS) := (hp4.next hw).cell (i := 2) rfl
   revert h27
   generalize a.eval = ev
   intro h27
   unfold execOp
   simp only [h27]
   go_simp)⟩),
     .inr (.inl ⟨rfl, step_ex _ rfl (.inl rfl) rfl (fun a ww hw hf hd => by
   have h0 : a.eval (.tmp 0) = Value.pointer (some ⟨p, 0, none⟩) := ((knows_out 0 (by kernel_rfl) rfl) : Knows _ _ _ _ _ _ 5 _ _) a ww hw hf hd
   revert h0
   generalize a.eval = ev
   intro h0
   unfold execOp
   simp only [h0]
   go_simp)⟩),
     .inr (.inl ⟨rfl, step_ldV rfl (.inl rfl) (fun _ hw => (hB4.next hw).rw.range) rfl Tryz.underlying65 rfl (szV infT (tc_len _)) rfl (knows_out 3 (by kernel_rfl) rfl)⟩),
     .inr (.inl ⟨rfl, step_cw rfl (.inl rfl) rfl cxT155 rfl (fun aa ww hw hf hd => ⟨_, (two_args (knows_in 5 29 (by decide) (by kernel_rfl) rfl rfl) (knows_in 6 30 (by decide) (by kernel_rfl) rfl rfl)) aa ww hw hf hd, (Hsz ww hw)⟩)⟩),
     .inr (.inl ⟨rfl, step_bsl (.inl rfl) rfl Tryz.underlying101 infI (by decide) (by decide) (vs := [Value.int .i64 r]) (by first | kernel_rfl | rfl) rfl (parts1 (knows_in 7 31 (by decide) (by kernel_rfl) rfl rfl))⟩),
     .inl rfl, trivial⟩ _ rfl rfl ?_ ?_
  · intro a ww hw hf hd
    have h28 : a.eval (.tmp 28) = Value.slice AS L.length cS := hd 4 28 (by decide) (by kernel_rfl) rfl
    obtain ⟨b, hb1, hb0, hb2⟩ := hd 8 32 (by decide) (by kernel_rfl) rfl
    exact evt_app rfl rfl Tryz.underlying101 infIb rfl (by decide) (by decide) (row_next rS4 hw) h28 ⟨b, hb1, hb2⟩ rfl (by simp [Value.oneCell']) (by omega)
  intro val W2 W3 hw hS hR
  have e24 : val 24 = Value.pointer (some ⟨p, 0, none⟩) := hS 0 24 (by decide) (by decide) rfl
  have e25 : val 25 = Value.pointer (some ⟨p, 0, none⟩) := hS 1 25 (by decide) (by decide) rfl
  have e26 : val 26 = Value.pointer (some ⟨p, 0, none⟩) := hS 2 26 (by decide) (by decide) rfl
  have e27 : val 27 = Value.pointer (some ⟨p, 2, none⟩) := hS 3 27 (by decide) (by decide) rfl
  have e28 : val 28 = Value.slice AS L.length cS := hS 4 28 (by decide) (by decide) rfl
  have e29 : val 29 = Value.pointer (some ⟨p, 0, none⟩) := hS 5 29 (by decide) (by decide) rfl
  have e30 : val 30 = Value.agg (tc t).toArray := hS 6 30 (by decide) (by decide) rfl
  have e31 : val 31 = Value.int .i64 r := hS 7 31 (by decide) (by decide) rfl
  have hR := hR 33 rfl
  obtain ⟨A33, c33, e33, hl33, hm33, hr33, hg33, ho33⟩ := hR
  rw [e33] at hr33 ho33
  simp only [putVals, List.foldl_cons, List.foldl_nil, List.drop_succ_cons, List.drop_zero, Act.put, List.setIfInBounds_toArray, List.set_cons_succ, List.set_cons_zero, e24, e25, e26, e27, e28, e29, e30, e31, e33]
  generalize val 32 = g32
  clear e24 e25 e26 e27 e28 e29 e30 e31 e33 hS
  have hp5 := hp4.next hw
  have rT5 := row_next rT4 hw
  have rS5 := row_next rS4 hw
  have rX5 := row_next rX4 hw
  have mN5 := map_next mN4 hw
  have mI5 := map_next mI4 hw
  have hB5 := hB4.next hw
  have hp6 := hp5.grown hg33 (blk_ne hp5 rS5 (by decide))
  have rT6 := rT5.kept hg33 (row_ne rT5 rS5 (by decide))
  have rX6 := rX5.kept hg33 (row_ne rX5 rS5 (by decide))
  have mN6 := mN5.kept hg33 (map_ne mN5 rS5)
  have mI6 := mI5.kept hg33 (map_ne mI5 rS5)
  have hB6 := hB5.grown hg33 (fun e => by have := hlt4 _ e.symm; omega)
  have hz4 : w.heap.size ≤ W2.heap.size := Nat.le_trans hC4.size hw.size
  have hC6 := (hC4.next hw).grown hg33 (fun g e => .inl (.inr (.inr (.inr (.inr (.inl (by rw [← e]; exact (own0 _ _ _).symm)))))))
  have c2 := hp6.cell (i := 2) rfl
  have f2 := hp6.free 2
  obtain ⟨W7, hW7⟩ : ∃ W7, W3.setCell ⟨p, 2, none⟩ (.slice A33 (L.length + 1) c33) = W7 := ⟨_, rfl⟩
  have hp7 : Blk W7 p 126 [.bool true, .slice A21 (L.length + 1) c21, .slice A33 (L.length + 1) c33, .map (some mN), .slice AX X.length cX, .map (some mI), .int .i64 n0, .int .i64 n1, .int .i64 n2, .int .i64 n3, .int .i64 n4] := by rw [← hW7]; exact hp6.set 2 _
  have rT7 := row_setC rT6 hp6 (by decide) 2 (.slice A33 (L.length + 1) c33)
  have rS7 := row_setC hr33 hp6 (by decide) 2 (.slice A33 (L.length + 1) c33)
  have rX7 := row_setC rX6 hp6 (by decide) 2 (.slice A33 (L.length + 1) c33)
  have mN7 := mN6.setCell (a := ⟨p, 2, none⟩) (blk_map mN6 hp6) (.slice A33 (L.length + 1) c33)
  have mI7 := mI6.setCell (a := ⟨p, 2, none⟩) (blk_map mI6 hp6) (.slice A33 (L.length + 1) c33)
  have hB7 := hB6.other (a := ⟨p, 2, none⟩) (show p ≠ w.heap.size by omega) (.slice A33 (L.length + 1) c33)
  have hC7 := hC6.setCell (p := ⟨p, 2, none⟩) (.inl (.inl rfl)) (.slice A33 (L.length + 1) c33)
  rw [hW7] at rT7 rS7 rX7 mN7 mI7 hB7 hC7
  have hb33 : ∀ g, (Value.slice A33 0 c33).ownBlock = some g → foot p ⟨AT, cT, AS, cS, mN, AX, cX, mI, [n0, n1, n2, n3, n4]⟩ g ∨ w.heap.size ≤ g := fun g e => by
    rcases ho33 with h | h
    · exact .inl (.inr (.inr (.inr (.inr (.inl ((own0 _ _ _).symm.trans (h.symm.trans ((own0 _ _ _).trans e))))))))
    · have e2 := (own0 A33 (L.length + 1) c33).trans e
      rw [h] at e2; injection e2 with e2; exact .inr (by omega)
  have HW7 := hid hW7
  clear hp4 rT4 rS4 rX4 mN4 mI4 hB4 hp5 rT5 rS5 rX5 mN5 mI5 hB5 hp6 rT6 rX6 mN6 mI6 hB6 hC6 hC4 hg33 ho33 hr33 hw hW7 hz4 hlt4 Hsz
  go_upto_region 6 with (fail)
  rw [HW7.out]
  clear HW7 c2 f2
  refine region_spec2 6 64 (fun _ => false) [Is (Value.pointer (some ⟨p, 0, none⟩)), Is (Value.pointer (some ⟨p, 0, none⟩)), Is (Value.pointer (some ⟨p, 3, none⟩)), Is (Value.map (some mN)), Is (Value.agg (tc t).toArray), Is (Value.int .i64 (L.length : Nat))] [36, 37, 38, 39, 40, 41] (by kernel_rfl) (by kernel_rfl) (by kernel_rfl) (Nat.le_of_eq rfl) (grows_cons (Is.grows _) (grows_cons (Is.grows _) (grows_cons (Is.grows _) (grows_cons (Is.grows _) (grows_cons (Is.grows _) (grows_cons (Is.grows _) grows_nil))))))
    ⟨(step_ex _ rfl (.inl rfl) rfl (fun a ww hw hf hd => by
   have h0 : a.eval (.tmp 0) = Value.pointer (some ⟨p, 0, none⟩) := ((knows_out 0 (by kernel_rfl) rfl) : Knows _ _ _ _ _ _ 0 _ _) a ww hw hf hd
   revert h0
   generalize a.eval = ev
   intro h0
   unfold execOp
   simp only [h0]
   go_simp)),
     (step_ex _ rfl (.inl rfl) rfl (fun a ww hw hf hd => by
   have h36 : a.eval (.tmp 36) = Value.pointer (some ⟨p, 0, none⟩) := ((knows_in 0 36 (by decide) (by kernel_rfl) rfl rfl) : Knows _ _ _ _ _ _ 1 _ _) a ww hw hf hd
   revert h36
   generalize a.eval = ev
   intro h36
   unfold execOp
   simp only [h36]
   go_simp)),
     (step_ex _ rfl (.inl rfl) rfl (fun a ww hw hf hd => by
   have h37 : a.eval (.tmp 37) = Value.pointer (some ⟨p, 0, none⟩) := ((knows_in 1 37 (by decide) (by kernel_rfl) rfl rfl) : Knows _ _ _ _ _ _ 2 _ _) a ww hw hf hd
   revert h37
   generalize a.eval = ev
   intro h37
   unfold execOp
   simp only [h37]
   go_simp)),
     (step_ex _ rfl (.inl rfl) rfl (fun a ww hw hf hd => by
   have h38 : a.eval (.tmp 38) = Value.pointer (some ⟨p, 3, none⟩) := ((knows_in 2 38 (by decide) (by kernel_rfl) rfl rfl) : Knows _ _ _ _ _ _ 3 _ _) a ww hw hf hd
   have f0 : ww.cell? ⟨p, 3, none⟩ = some (Value.map (some mN)) := (hp7.next hw).cell (i := 3) rfl
   revert h38
   generalize a.eval = ev
   intro h38
   unfold execOp
   simp only [h38]
   go_simp)),
     (step_ldV rfl (.inl rfl) (fun _ hw => (hB7.next hw).rw.range) rfl Tryz.underlying65 rfl (szV infT (tc_len _)) rfl (knows_out 3 (by kernel_rfl) rfl)),
     (step_ex _ rfl (.inl rfl) rfl (fun a ww hw hf hd => by
   have h6 : a.eval (.tmp 6) = Value.int .i64 (L.length : Nat) := ((knows_out 6 (by kernel_rfl) rfl) : Knows _ _ _ _ _ _ 5 _ _) a ww hw hf hd
   revert h6
   generalize a.eval = ev
   intro h6
   unfold execOp
   simp only [h6]
   go_simp)), trivial⟩ ?_
  intro val W8 hw hS _ _
  have e36 : val 36 = Value.pointer (some ⟨p, 0, none⟩) := hS 0 36 (by decide) rfl
  have e37 : val 37 = Value.pointer (some ⟨p, 0, none⟩) := hS 1 37 (by decide) rfl
  have e38 : val 38 = Value.pointer (some ⟨p, 3, none⟩) := hS 2 38 (by decide) rfl
  have e39 : val 39 = Value.map (some mN) := hS 3 39 (by decide) rfl
  have e40 : val 40 = Value.agg (tc t).toArray := hS 4 40 (by decide) rfl
  have e41 : val 41 = Value.int .i64 (L.length : Nat) := hS 5 41 (by decide) rfl
  simp only [putVals, List.foldl_cons, List.foldl_nil, List.drop_succ_cons, List.drop_zero, Act.put, List.setIfInBounds_toArray, List.set_cons_succ, List.set_cons_zero, e36, e37, e38, e39, e40, e41]
  clear e36 e37 e38 e39 e40 e41 hS
  have hp8 := hp7.next hw
  have rT8 := row_next rT7 hw
  have rS8 := row_next rS7 hw
  have rX8 := row_next rX7 hw
  have mN8 := map_next mN7 hw
  have mI8 := map_next mI7 hw
  have hB8 := hB7.next hw
  have hC8 := hC7.next hw
  have hnlt : L.length < maxLen := by unfold maxLen; omega
  have hpe := plainElem_int (H := Unit) Tryz.underlying3 (q := .i64) (a := (L.length : Int)) (WalkArith.wf_i64 (by omega))
  go_upto_region 7 with (at_mapUpdate; refine wpList_mapUpdate_own _ rfl _ _ _ 121 rfl 65 3 lawT Tryz.underlying121 _ mN L.length DN rfl mN8 hnlt _ _ (tk t) rfl rfl (key_of t ht) (i64 L.length) [] hpe ?_; intro W9 mN9 hg9)
  have hnN : ∀ {b t : Nat} {cs : List Value}, Blk W8 b t cs → some b ≠ some mN := fun h e => by injection e with e; exact blk_map mN8 h e.symm
  have hnR : ∀ {e s n : Nat} {v : Value} {xs : List Value}, W8.ownsRow 0 e s v n xs → v.ownBlock = none ∨ v.ownBlock ≠ some mN := fun h => .inr fun e => map_ne mN8 h e.symm
  have hp9 := hp8.grown hg9 (hnN hp8)
  have rT9 := rT8.kept hg9 (hnR rT8)
  have rS9 := rS8.kept hg9 (hnR rS8)
  have rX9 := rX8.kept hg9 (hnR rX8)
  have hB9 := hB8.grown hg9 (hnN hB8)
  have mI9 := mI8.kept hg9 (fun e => hNI (by injection e))
  have hC9 := hC8.grown hg9 (fun g e => .inl (.inr (.inl (by injection e with e; exact e.symm))))
  clear hp7 rT7 rS7 rX7 mN7 mI7 hB7 hC7 hp8 rT8 rS8 rX8 mN8 mI8 hB8 hC8 hg9 hnN hnR hw hpe hnlt
  have hk := HK.out
  have hk1 : (t.1 == 1) = true := by rw [hk]; rfl
  have hk0 : t.1 = 1 := by rw [hk]
  obtain ⟨mi, hmi⟩ : ∃ m, (if (4611686018427387904 : Int) < tb then 4611686018427387904 else tb) = m := ⟨_, rfl⟩
  obtain ⟨mx, hmx⟩ : ∃ m, (if (mi + 1 : Int) > n2 then mi + 1 else n2) = m := ⟨_, rfl⟩
  have hmi0 : 0 ≤ mi ∧ mi ≤ 4611686018427387904 := by rw [← hmi]; split <;> omega
  have hwm : IntKind.i64.wrap (mi + 1) = mi + 1 := IntWalk.i64_in _ ⟨by omega, by omega⟩
  have hbump : [n0, n1, mx, n3, n4] = updN [n0, n1, n2, n3, n4] t := by
    rw [hk]
    simp only [updN, bump, hmi]
    simp [← hmx, List.getD]
  have Hmi := hid hmi
  have Hmx := hid hmx
  have HBU := hid hbump
  clear hmi hmx hmi0 hbump
  subst hk
  clear hk0
  have x0 := hB9.cell (i := 0) rfl
  dsimp only at hk1
  go_upto_region 8 with (fail)
  clear x0 hk1
  refine region_spec2 18 64 (fun _ => false) [Is (Value.pointer (some ⟨p, 0, none⟩)), Is (Value.pointer (some ⟨w.heap.size, 1, none⟩)), Is (Value.int .i64 2), Is (Value.pointer (some ⟨p, 0, none⟩)), Is (Value.pointer (some ⟨w.heap.size, 1, none⟩)), Is (Value.int .i64 2), Is (Value.pointer (some ⟨p, 0, none⟩)), Is (Value.pointer (some ⟨p, 6, none⟩)), Is (Value.pointer (some ⟨p, 8, none⟩)), Is (Value.int .i64 n2), Is (Value.pointer (some ⟨w.heap.size, 2, none⟩)), Is (Value.int .i64 tb), Is (Value.int .i64 mi), Is (Value.int .i64 (mi + 1)), Is (Value.int .i64 mx), Is (Value.pointer (some ⟨p, 0, none⟩)), Is (Value.pointer (some ⟨p, 6, none⟩)), Is (Value.pointer (some ⟨p, 8, none⟩))] [45, 46, 47, 48, 49, 50, 51, 52, 53, 54, 55, 56, 57, 58, 59, 60, 61, 62] (by kernel_rfl) (by kernel_rfl) (by kernel_rfl) (Nat.le_of_eq rfl) (grows_cons (Is.grows _) (grows_cons (Is.grows _) (grows_cons (Is.grows _) (grows_cons (Is.grows _) (grows_cons (Is.grows _) (grows_cons (Is.grows _) (grows_cons (Is.grows _) (grows_cons (Is.grows _) (grows_cons (Is.grows _) (grows_cons (Is.grows _) (grows_cons (Is.grows _) (grows_cons (Is.grows _) (grows_cons (Is.grows _) (grows_cons (Is.grows _) (grows_cons (Is.grows _) (grows_cons (Is.grows _) (grows_cons (Is.grows _) (grows_cons (Is.grows _) grows_nil))))))))))))))))))
    ⟨(step_ex _ rfl (.inl rfl) rfl (fun a ww hw hf hd => by
   have h0 : a.eval (.tmp 0) = Value.pointer (some ⟨p, 0, none⟩) := ((knows_out 0 (by kernel_rfl) rfl) : Knows _ _ _ _ _ _ 0 _ _) a ww hw hf hd
   revert h0
   generalize a.eval = ev
   intro h0
   unfold execOp
   simp only [h0]
   go_simp)),
     (step_ex _ rfl (.inl rfl) rfl (fun a ww hw hf hd => by
   have h3 : a.eval (.tmp 3) = Value.pointer (some ⟨w.heap.size, 0, none⟩) := ((knows_out 3 (by kernel_rfl) rfl) : Knows _ _ _ _ _ _ 1 _ _) a ww hw hf hd
   revert h3
   generalize a.eval = ev
   intro h3
   unfold execOp
   simp only [h3]
   go_simp)),
     (step_ex _ rfl (.inl rfl) rfl (fun a ww hw hf hd => by
   have h46 : a.eval (.tmp 46) = Value.pointer (some ⟨w.heap.size, 1, none⟩) := ((knows_in 1 46 (by decide) (by kernel_rfl) rfl rfl) : Knows _ _ _ _ _ _ 2 _ _) a ww hw hf hd
   have f0 : ww.cell? ⟨w.heap.size, 1, none⟩ = some (Value.int .i64 2) := (hB9.next hw).cell (i := 1) rfl
   revert h46
   generalize a.eval = ev
   intro h46
   unfold execOp
   simp only [h46]
   go_simp)),
     (step_ex _ rfl (.inl rfl) rfl (fun a ww hw hf hd => by
   have h0 : a.eval (.tmp 0) = Value.pointer (some ⟨p, 0, none⟩) := ((knows_out 0 (by kernel_rfl) rfl) : Knows _ _ _ _ _ _ 3 _ _) a ww hw hf hd
   revert h0
   generalize a.eval = ev
   intro h0
   unfold execOp
   simp only [h0]
   go_simp)),
     (step_ex _ rfl (.inl rfl) rfl (fun a ww hw hf hd => by
   have h3 : a.eval (.tmp 3) = Value.pointer (some ⟨w.heap.size, 0, none⟩) := ((knows_out 3 (by kernel_rfl) rfl) : Knows _ _ _ _ _ _ 4 _ _) a ww hw hf hd
   revert h3
   generalize a.eval = ev
   intro h3
   unfold execOp
   simp only [h3]
   go_simp)),
     (step_ex _ rfl (.inl rfl) rfl (fun a ww hw hf hd => by
   have h49 : a.eval (.tmp 49) = Value.pointer (some ⟨w.heap.size, 1, none⟩) := ((knows_in 4 49 (by decide) (by kernel_rfl) rfl rfl) : Knows _ _ _ _ _ _ 5 _ _) a ww hw hf hd
   have f0 : ww.cell? ⟨w.heap.size, 1, none⟩ = some (Value.int .i64 2) := (hB9.next hw).cell (i := 1) rfl
   revert h49
   generalize a.eval = ev
   intro h49
   unfold execOp
   simp only [h49]
   go_simp)),
     (step_ex _ rfl (.inl rfl) rfl (fun a ww hw hf hd => by
   have h48 : a.eval (.tmp 48) = Value.pointer (some ⟨p, 0, none⟩) := ((knows_in 3 48 (by decide) (by kernel_rfl) rfl rfl) : Knows _ _ _ _ _ _ 6 _ _) a ww hw hf hd
   revert h48
   generalize a.eval = ev
   intro h48
   unfold execOp
   simp only [h48]
   go_simp)),
     (step_ex _ rfl (.inl rfl) rfl (fun a ww hw hf hd => by
   have h51 : a.eval (.tmp 51) = Value.pointer (some ⟨p, 0, none⟩) := ((knows_in 6 51 (by decide) (by kernel_rfl) rfl rfl) : Knows _ _ _ _ _ _ 7 _ _) a ww hw hf hd
   revert h51
   generalize a.eval = ev
   intro h51
   unfold execOp
   simp only [h51]
   go_simp)),
     (step_ex _ rfl (.inl rfl) rfl (fun a ww hw hf hd => by
   have h52 : a.eval (.tmp 52) = Value.pointer (some ⟨p, 6, none⟩) := ((knows_in 7 52 (by decide) (by kernel_rfl) rfl rfl) : Knows _ _ _ _ _ _ 8 _ _) a ww hw hf hd
   have h50 : a.eval (.tmp 50) = Value.int .i64 2 := ((knows_in 5 50 (by decide) (by kernel_rfl) rfl rfl) : Knows _ _ _ _ _ _ 8 _ _) a ww hw hf hd
   revert h52 h50
   generalize a.eval = ev
   intro h52 h50
   unfold execOp
   simp only [h52, h50]
   go_simp)),
     (step_ex _ rfl (.inl rfl) rfl (fun a ww hw hf hd => by
   have h53 : a.eval (.tmp 53) = Value.pointer (some ⟨p, 8, none⟩) := ((knows_in 8 53 (by decide) (by kernel_rfl) rfl rfl) : Knows _ _ _ _ _ _ 9 _ _) a ww hw hf hd
   have f0 : ww.cell? ⟨p, 8, none⟩ = some (Value.int .i64 n2) := (hp9.next hw).cell (i := 8) rfl
   revert h53
   generalize a.eval = ev
   intro h53
   unfold execOp
   simp only [h53]
   go_simp)),
     (step_ex _ rfl (.inl rfl) rfl (fun a ww hw hf hd => by
   have h3 : a.eval (.tmp 3) = Value.pointer (some ⟨w.heap.size, 0, none⟩) := ((knows_out 3 (by kernel_rfl) rfl) : Knows _ _ _ _ _ _ 10 _ _) a ww hw hf hd
   revert h3
   generalize a.eval = ev
   intro h3
   unfold execOp
   simp only [h3]
   go_simp)),
     (step_ex _ rfl (.inl rfl) rfl (fun a ww hw hf hd => by
   have h55 : a.eval (.tmp 55) = Value.pointer (some ⟨w.heap.size, 2, none⟩) := ((knows_in 10 55 (by decide) (by kernel_rfl) rfl rfl) : Knows _ _ _ _ _ _ 11 _ _) a ww hw hf hd
   have f0 : ww.cell? ⟨w.heap.size, 2, none⟩ = some (Value.int .i64 tb) := (hB9.next hw).cell (i := 2) rfl
   revert h55
   generalize a.eval = ev
   intro h55
   unfold execOp
   simp only [h55]
   go_simp)),
     (step_min rfl (.inl rfl) rfl rfl Hmi.out (knows_in 11 56 (by decide) (by kernel_rfl) rfl rfl) (knows_const _)),
     (step_ex _ rfl (.inl rfl) rfl (fun a ww hw hf hd => by
   have h57 : a.eval (.tmp 57) = Value.int .i64 mi := ((knows_in 12 57 (by decide) (by kernel_rfl) rfl rfl) : Knows _ _ _ _ _ _ 13 _ _) a ww hw hf hd
   have f0 := hwm
   have hc := ec a
   revert hc h57
   generalize a.eval = ev
   intro hc h57
   unfold execOp
   simp only [hc, h57]
   go_simp)),
     (step_max rfl (.inl rfl) rfl rfl Hmx.out (knows_in 9 54 (by decide) (by kernel_rfl) rfl rfl) (knows_in 13 58 (by decide) (by kernel_rfl) rfl rfl)),
     (step_ex _ rfl (.inl rfl) rfl (fun a ww hw hf hd => by
   have h45 : a.eval (.tmp 45) = Value.pointer (some ⟨p, 0, none⟩) := ((knows_in 0 45 (by decide) (by kernel_rfl) rfl rfl) : Knows _ _ _ _ _ _ 15 _ _) a ww hw hf hd
   revert h45
   generalize a.eval = ev
   intro h45
   unfold execOp
   simp only [h45]
   go_simp)),
     (step_ex _ rfl (.inl rfl) rfl (fun a ww hw hf hd => by
   have h60 : a.eval (.tmp 60) = Value.pointer (some ⟨p, 0, none⟩) := ((knows_in 15 60 (by decide) (by kernel_rfl) rfl rfl) : Knows _ _ _ _ _ _ 16 _ _) a ww hw hf hd
   revert h60
   generalize a.eval = ev
   intro h60
   unfold execOp
   simp only [h60]
   go_simp)),
     (step_ex _ rfl (.inl rfl) rfl (fun a ww hw hf hd => by
   have h61 : a.eval (.tmp 61) = Value.pointer (some ⟨p, 6, none⟩) := ((knows_in 16 61 (by decide) (by kernel_rfl) rfl rfl) : Knows _ _ _ _ _ _ 17 _ _) a ww hw hf hd
   have h47 : a.eval (.tmp 47) = Value.int .i64 2 := ((knows_in 2 47 (by decide) (by kernel_rfl) rfl rfl) : Knows _ _ _ _ _ _ 17 _ _) a ww hw hf hd
   revert h61 h47
   generalize a.eval = ev
   intro h61 h47
   unfold execOp
   simp only [h61, h47]
   go_simp)), trivial⟩ ?_
  intro val W10 hw hS _ _
  have e45 : val 45 = Value.pointer (some ⟨p, 0, none⟩) := hS 0 45 (by decide) rfl
  have e46 : val 46 = Value.pointer (some ⟨w.heap.size, 1, none⟩) := hS 1 46 (by decide) rfl
  have e47 : val 47 = Value.int .i64 2 := hS 2 47 (by decide) rfl
  have e48 : val 48 = Value.pointer (some ⟨p, 0, none⟩) := hS 3 48 (by decide) rfl
  have e49 : val 49 = Value.pointer (some ⟨w.heap.size, 1, none⟩) := hS 4 49 (by decide) rfl
  have e50 : val 50 = Value.int .i64 2 := hS 5 50 (by decide) rfl
  have e51 : val 51 = Value.pointer (some ⟨p, 0, none⟩) := hS 6 51 (by decide) rfl
  have e52 : val 52 = Value.pointer (some ⟨p, 6, none⟩) := hS 7 52 (by decide) rfl
  have e53 : val 53 = Value.pointer (some ⟨p, 8, none⟩) := hS 8 53 (by decide) rfl
  have e54 : val 54 = Value.int .i64 n2 := hS 9 54 (by decide) rfl
  have e55 : val 55 = Value.pointer (some ⟨w.heap.size, 2, none⟩) := hS 10 55 (by decide) rfl
  have e56 : val 56 = Value.int .i64 tb := hS 11 56 (by decide) rfl
  have e57 : val 57 = Value.int .i64 mi := hS 12 57 (by decide) rfl
  have e58 : val 58 = Value.int .i64 (mi + 1) := hS 13 58 (by decide) rfl
  have e59 : val 59 = Value.int .i64 mx := hS 14 59 (by decide) rfl
  have e60 : val 60 = Value.pointer (some ⟨p, 0, none⟩) := hS 15 60 (by decide) rfl
  have e61 : val 61 = Value.pointer (some ⟨p, 6, none⟩) := hS 16 61 (by decide) rfl
  have e62 : val 62 = Value.pointer (some ⟨p, 8, none⟩) := hS 17 62 (by decide) rfl
  simp only [putVals, List.foldl_cons, List.foldl_nil, List.drop_succ_cons, List.drop_zero, Act.put, List.setIfInBounds_toArray, List.set_cons_succ, List.set_cons_zero, e45, e46, e47, e48, e49, e50, e51, e52, e53, e54, e55, e56, e57, e58, e59, e60, e61, e62]
  clear e45 e46 e47 e48 e49 e50 e51 e52 e53 e54 e55 e56 e57 e58 e59 e60 e61 e62 hS
  have hp10 := hp9.next hw
  have c10 := hp10.cell (i := 8) rfl
  have f10 := hp10.free 8
  obtain ⟨W11, hW11⟩ : ∃ W11, W10.setCell ⟨p, 8, none⟩ (.int .i64 mx) = W11 := ⟨_, rfl⟩
  have hp11 : Blk W11 p 126 ((Lay.mk A21 c21 A33 c33 mN AX cX mI [n0, n1, mx, n3, n4]).cells (L.length + 1) X.length) := by rw [← hW11]; exact hp10.set 8 _
  have rT11 := row_setC (row_next rT9 hw) hp10 (by decide) 8 (.int .i64 mx)
  have rS11 := row_setC (row_next rS9 hw) hp10 (by decide) 8 (.int .i64 mx)
  have rX11 := row_setC (row_next rX9 hw) hp10 (by decide) 8 (.int .i64 mx)
  have mN11 := (map_next mN9 hw).setCell (a := ⟨p, 8, none⟩) (blk_map (map_next mN9 hw) hp10) (.int .i64 mx)
  have mI11 := (map_next mI9 hw).setCell (a := ⟨p, 8, none⟩) (blk_map (map_next mI9 hw) hp10) (.int .i64 mx)
  have h11C := (hC9.next hw).setCell (p := ⟨p, 8, none⟩) (.inl (.inl rfl)) (.int .i64 mx)
  rw [hW11] at rT11 rS11 rX11 mN11 mI11 h11C
  have HW11 := hid hW11
  clear hW11 hw hp9 rT9 rS9 rX9 mN9 mI9 hB9 hC9 hp10
  go_upto_region 9 with (fail)
  rw [HW11.out]
  clear HW11 c10 f10
  go_wp2
  go_ret2
  have hlen : (L ++ [(1, 2, tb)]).length = L.length + 1 := by simp
  have hfl : flatZ (L ++ [(1, 2, tb)]) = flatZ L ++ tc (1, 2, tb) := by rw [flat_appZ, flat_one]
  have hzz : ints .i64 (zs ++ [r]) = ints .i64 zs ++ [Value.int .i64 r] := ints_app _ _ _
  refine ⟨rfl, ⟨A21, c21, A33, c33, mN, AX, cX, mI, [n0, n1, mx, n3, n4]⟩, HBU.out, rfl, rfl, ?_, h11C, fun b hb => ?_⟩
  · rw [HR.out]
    refine ⟨by rw [hlen]; exact hp11, by rw [hlen, hfl]; exact rT11, by rw [hlen, hzz]; exact rS11, rX11, by rw [hlen]; exact mN11, mI11⟩
  · rcases hb with h | h | h | h | h | h
    · exact .inl (.inl h)
    · exact .inl (.inr (.inl h))
    · exact .inl (.inr (.inr (.inl h)))
    · exact hb21 b h
    · exact hb33 b h
    · exact .inl (.inr (.inr (.inr (.inr (.inr h)))))
set_option maxRecDepth 50000 in
set_option maxHeartbeats 4000000 in
theorem add_atom3 (p : Nat) (AT AS AX : Option Addr) (cT cS mN cX mI : Nat) (n0 n1 n2 n3 n4 : Int) (zs : List Int) (DN DI : D0) (L : List T3) (X : List (List Int)) (t : T3) (tb : Int) (hk : t = (1, 3, tb)) (hb0 : 0 ≤ tb) (hb1 : n3 ≤ 4611686018427387905) (hb2 : 0 ≤ n3) (hNI : mI ≠ mN) (w : World) (hT : TS w p ⟨AT, cT, AS, cS, mN, AX, cX, mI, [n0, n1, n2, n3, n4]⟩ zs DN DI L X) (ht : Twf t) (hzl : zs.length = L.length) (hzb : ∀ z ∈ zs, 1 ≤ z ∧ z ≤ 1048576) (hL : L.length ≤ 40) (x : Nat) (hwf : WFt L.length x t) :
    Calls Tryz.prog 101 #[.pointer (some ⟨p, 0, none⟩), tv t] w fun e w' => e = .returned (.tuple #[.int .i64 L.length, .int .i64 0]) ∧ AddR p ⟨AT, cT, AS, cS, mN, AX, cX, mI, [n0, n1, n2, n3, n4]⟩ zs DN DI L X t w w' := by
  have HK := hid hk
  clear hk
  obtain ⟨W, hW, d0, d1, d2, hB, hB3⟩ := term_world t w
  have hT1 := hT.next hB
  have hC1 : Chg (foot p ⟨AT, cT, AS, cS, mN, AX, cX, mI, [n0, n1, n2, n3, n4]⟩) w W := Chg.of hB _
  have c1 : W.cell? ⟨p, 1, none⟩ = some (.slice AT L.length cT) := hT1.blk.cell (i := 1) rfl
  have hlt3 : ∀ g, (Value.slice AT L.length cT).ownBlock = some g → g < w.heap.size := rowlt hT.rT
  have hlt4 : ∀ g, (Value.slice AS L.length cS).ownBlock = some g → g < w.heap.size := rowlt hT.rS
  have hltN := hT.mN.lt
  have hltp := hT.blk.lt
  obtain ⟨r, hr⟩ : ∃ r, szOf zs t = r := ⟨_, rfl⟩
  have HR := hid hr
  have hne : ((L.length : Int) == 65536) = false := beq_false_of_ne (by omega)
  have HW := hid hW
  clear hr hW d0 d1 d2
  unfold tv
  go_enter Tryz.func101, Tryz.ntmps101
  go_upto_region 1 with (fail)
  rw [HW.out]
  clear HW hT hB
  go_upto_region 4 with (fail)
  clear c1 hne
  refine region_evt 8 7 64 [false, true, true, true, true, true, true, false] [Is (Value.pointer (some ⟨p, 0, none⟩)), Is (Value.pointer (some ⟨p, 0, none⟩)), Is (Value.pointer (some ⟨p, 0, none⟩)), Is (Value.pointer (some ⟨p, 1, none⟩)), Is (Value.slice AT L.length cT), Is (Value.agg (tc t).toArray), IsRowV W.heap.size 1 (tc t), (fun _ _ => True)] [14, 15, 16, 17, 18, 19, 20, 21] (AppR 65 3 (.slice AT L.length cT) L.length (flatZ L) (tc t)) (by kernel_rfl) (by kernel_rfl) (by kernel_rfl) (Nat.le_of_eq rfl) (grows_cons (Is.grows _) (grows_cons (Is.grows _) (grows_cons (Is.grows _) (grows_cons (Is.grows _) (grows_cons (Is.grows _) (grows_cons (Is.grows _) (grows_cons (IsRowV.grows _ _ _) (grows_cons (fun _ _ _ _ _ => trivial) grows_nil))))))))
    ⟨.inr (.inr ⟨rfl, pure_ex (Value.pointer (some ⟨p, 0, none⟩)) rfl rfl (fun a w0 ww hw hf hd => by
   have h0 : a.eval (.tmp 0) = Value.pointer (some ⟨p, 0, none⟩) := ((knows_out 0 (by kernel_rfl) rfl) : Knows _ _ _ _ _ _ 0 _ _) a w0 hw hf hd
   revert h0
   generalize a.eval = ev
   intro h0
   unfold execOp
   simp only [h0]
   go_simp)⟩),
     .inr (.inl ⟨rfl, step_ex _ rfl (.inl rfl) rfl (fun a ww hw hf hd => by
   have h0 : a.eval (.tmp 0) = Value.pointer (some ⟨p, 0, none⟩) := ((knows_out 0 (by kernel_rfl) rfl) : Knows _ _ _ _ _ _ 1 _ _) a ww hw hf hd
   revert h0
   generalize a.eval = ev
   intro h0
   unfold execOp
   simp only [h0]
   go_simp)⟩),
     .inr (.inl ⟨rfl, step_ex _ rfl (.inl rfl) rfl (fun a ww hw hf hd => by
   have h15 : a.eval (.tmp 15) = Value.pointer (some ⟨p, 0, none⟩) := ((knows_in 1 15 (by decide) (by kernel_rfl) rfl rfl) : Knows _ _ _ _ _ _ 2 _ _) a ww hw hf hd
   revert h15
   generalize a.eval = ev
   intro h15
   unfold execOp
   simp only [h15]
   go_simp)⟩),
     .inr (.inl ⟨rfl, step_ex _ rfl (.inl rfl) rfl (fun a ww hw hf hd => by
   have h16 : a.eval (.tmp 16) = Value.pointer (some ⟨p, 0, none⟩) := ((knows_in 2 16 (by decide) (by kernel_rfl) rfl rfl) : Knows _ _ _ _ _ _ 3 _ _) a ww hw hf hd
   revert h16
   generalize a.eval = ev
   intro h16
   unfold execOp
   simp only [h16]
   go_simp)⟩),
     .inr (.inl ⟨rfl, step_ex _ rfl (.inl rfl) rfl (fun a ww hw hf hd => by
   have h17 : a.eval (.tmp 17) = Value.pointer (some ⟨p, 1, none⟩) := ((knows_in 3 17 (by decide) (by kernel_rfl) rfl rfl) : Knows _ _ _ _ _ _ 4 _ _) a ww hw hf hd
   have f0 : ww.cell? ⟨p, 1, none⟩ = some (Value.slice AT L.length cT) := (hT1.blk.next hw).cell (i := 1) rfl
   revert h17
   generalize a.eval = ev
   intro h17
   unfold execOp
   simp only [h17]
   go_simp)⟩),
     .inr (.inl ⟨rfl, step_ldV rfl (.inl rfl) (fun _ hw => (hB3.next hw).rw.range) rfl Tryz.underlying65 rfl (szV infT (tc_len _)) rfl (knows_out 3 (by kernel_rfl) rfl)⟩),
     .inr (.inl ⟨rfl, step_bsl (.inl rfl) rfl Tryz.underlying120 infT (by decide) (by decide) (vs := (tc t)) (by first | kernel_rfl | rfl) rfl (parts1 (knows_in 5 19 (by decide) (by kernel_rfl) rfl rfl))⟩),
     .inl rfl, trivial⟩ _ rfl rfl ?_ ?_
  · intro a ww hw hf hd
    have h18 : a.eval (.tmp 18) = Value.slice AT L.length cT := hd 4 18 (by decide) (by kernel_rfl) rfl
    obtain ⟨b, hb1, hb0, hb2⟩ := hd 6 20 (by decide) (by kernel_rfl) rfl
    exact evt_app rfl rfl Tryz.underlying120 infTb rfl (by decide) (by decide) (row_next hT1.rT hw) h18 ⟨b, hb1, hb2⟩ rfl (tc_one t) (by omega)
  intro val W2 W3 hw hS hR
  have e14 : val 14 = Value.pointer (some ⟨p, 0, none⟩) := hS 0 14 (by decide) (by decide) rfl
  have e15 : val 15 = Value.pointer (some ⟨p, 0, none⟩) := hS 1 15 (by decide) (by decide) rfl
  have e16 : val 16 = Value.pointer (some ⟨p, 0, none⟩) := hS 2 16 (by decide) (by decide) rfl
  have e17 : val 17 = Value.pointer (some ⟨p, 1, none⟩) := hS 3 17 (by decide) (by decide) rfl
  have e18 : val 18 = Value.slice AT L.length cT := hS 4 18 (by decide) (by decide) rfl
  have e19 : val 19 = Value.agg (tc t).toArray := hS 5 19 (by decide) (by decide) rfl
  have hR := hR 21 rfl
  obtain ⟨A21, c21, e21, hl21, hm21, hr21, hg21, ho21⟩ := hR
  rw [e21] at hr21 ho21
  simp only [putVals, List.foldl_cons, List.foldl_nil, List.drop_succ_cons, List.drop_zero, Act.put, List.setIfInBounds_toArray, List.set_cons_succ, List.set_cons_zero, e14, e15, e16, e17, e18, e19, e21]
  generalize val 20 = g20
  clear e14 e15 e16 e17 e18 e19 e21 hS
  have hT2 := hT1.next hw
  have hp3 := hT2.blk.grown hg21 (blk_ne hT2.blk hT2.rT (by decide))
  have rS3 := hT2.rS.kept hg21 (row_ne hT2.rS hT2.rT (by decide))
  have rX3 := hT2.rX.kept hg21 (row_ne hT2.rX hT2.rT (by decide))
  have mN3 := hT2.mN.kept hg21 (map_ne hT2.mN hT2.rT)
  have mI3 := hT2.mI.kept hg21 (map_ne hT2.mI hT2.rT)
  have hB33 := (hB3.next hw).grown hg21 (fun e => by have := hlt3 _ e.symm; omega)
  have hz2 : w.heap.size ≤ W2.heap.size := Nat.le_trans hC1.size hw.size
  have hC3 := (hC1.next hw).grown hg21 (fun g e => .inl (.inr (.inr (.inr (.inl (by rw [← e]; exact (own0 _ _ _).symm))))))
  have c1 := hp3.cell (i := 1) rfl
  have f1 := hp3.free 1
  obtain ⟨W4, hW4⟩ : ∃ W4, W3.setCell ⟨p, 1, none⟩ (.slice A21 (L.length + 1) c21) = W4 := ⟨_, rfl⟩
  have hp4 : Blk W4 p 126 [.bool true, .slice A21 (L.length + 1) c21, .slice AS L.length cS, .map (some mN), .slice AX X.length cX, .map (some mI), .int .i64 n0, .int .i64 n1, .int .i64 n2, .int .i64 n3, .int .i64 n4] := by rw [← hW4]; exact hp3.set 1 _
  have rT4 := row_setC hr21 hp3 (by decide) 1 (.slice A21 (L.length + 1) c21)
  have rS4 := row_setC rS3 hp3 (by decide) 1 (.slice A21 (L.length + 1) c21)
  have rX4 := row_setC rX3 hp3 (by decide) 1 (.slice A21 (L.length + 1) c21)
  have mN4 := mN3.setCell (a := ⟨p, 1, none⟩) (blk_map mN3 hp3) (.slice A21 (L.length + 1) c21)
  have mI4 := mI3.setCell (a := ⟨p, 1, none⟩) (blk_map mI3 hp3) (.slice A21 (L.length + 1) c21)
  have hB4 := hB33.other (a := ⟨p, 1, none⟩) (show p ≠ w.heap.size by omega) (.slice A21 (L.length + 1) c21)
  have hC4 := hC3.setCell (p := ⟨p, 1, none⟩) (.inl (.inl rfl)) (.slice A21 (L.length + 1) c21)
  rw [hW4] at rT4 rS4 rX4 mN4 mI4 hB4 hC4
  have hb21 : ∀ g, (Value.slice A21 0 c21).ownBlock = some g → foot p ⟨AT, cT, AS, cS, mN, AX, cX, mI, [n0, n1, n2, n3, n4]⟩ g ∨ w.heap.size ≤ g := fun g e => by
    rcases ho21 with h | h
    · exact .inl (.inr (.inr (.inr (.inl ((own0 _ _ _).symm.trans (h.symm.trans ((own0 _ _ _).trans e)))))))
    · have e2 := (own0 A21 (L.length + 1) c21).trans e
      rw [h] at e2; injection e2 with e2; exact .inr (by omega)
  have HW4 := hid hW4
  clear hT1 hT2 hp3 rS3 rX3 mN3 mI3 hB33 hB3 hC3 hC1 hg21 ho21 hr21 hw hW4 hz2 hlt3
  have Hsz : ∀ ww, Cl W4 ww → Calls Tryz.prog 155 #[.pointer (some ⟨p, 0, none⟩), tv t] ww fun e w' => e = .returned (.int .i64 r) ∧ Below ww.heap.size ww w' := fun ww hw => by
    have hS4 : Owns ww 0 3 .i64 (.slice AS zs.length cS) zs := by
      have := row_next rS4 hw
      rw [← hzl] at this
      exact this
    have h := size_any p cS x AS zs t ww (by rw [hzl]; exact hwf) (by rw [hzl]; exact (hp4.next hw).cell (i := 2) rfl) hS4.nums hzb
    rw [HR.out] at h
    exact h
  go_upto_region 5 with (fail)
  rw [HW4.out]
  clear HW4 c1 f1
  skip
  refine region_evt 10 9 64 [false, true, true, true, true, true, true, true, true, false] [Is (Value.pointer (some ⟨p, 0, none⟩)), Is (Value.pointer (some ⟨p, 0, none⟩)), Is (Value.pointer (some ⟨p, 0, none⟩)), Is (Value.pointer (some ⟨p, 2, none⟩)), Is (Value.slice AS L.length cS), Is (Value.pointer (some ⟨p, 0, none⟩)), Is (Value.agg (tc t).toArray), Is (Value.int .i64 r), IsRowV W4.heap.size 1 [Value.int .i64 r], (fun _ _ => True)] [24, 25, 26, 27, 28, 29, 30, 31, 32, 33] (AppR 3 1 (.slice AS L.length cS) L.length (ints .i64 zs) [Value.int .i64 r]) (by kernel_rfl) (by kernel_rfl) (by kernel_rfl) (Nat.le_of_eq rfl) (grows_cons (Is.grows _) (grows_cons (Is.grows _) (grows_cons (Is.grows _) (grows_cons (Is.grows _) (grows_cons (Is.grows _) (grows_cons (Is.grows _) (grows_cons (Is.grows _) (grows_cons (Is.grows _) (grows_cons (IsRowV.grows _ _ _) (grows_cons (fun _ _ _ _ _ => trivial) grows_nil))))))))))
    ⟨.inr (.inr ⟨rfl, pure_ex (Value.pointer (some ⟨p, 0, none⟩)) rfl rfl (fun a w0 ww hw hf hd => by
   have h0 : a.eval (.tmp 0) = Value.pointer (some ⟨p, 0, none⟩) := ((knows_out 0 (by kernel_rfl) rfl) : Knows _ _ _ _ _ _ 0 _ _) a w0 hw hf hd
   revert h0
   generalize a.eval = ev
   intro h0
   unfold execOp
   simp only [h0]
   go_simp)⟩),
     .inr (.inl ⟨rfl, step_ex _ rfl (.inl rfl) rfl (fun a ww hw hf hd => by
   have h0 : a.eval (.tmp 0) = Value.pointer (some ⟨p, 0, none⟩) := ((knows_out 0 (by kernel_rfl) rfl) : Knows _ _ _ _ _ _ 1 _ _) a ww hw hf hd
   revert h0
   generalize a.eval = ev
   intro h0
   unfold execOp
   simp only [h0]
   go_simp)⟩),
     .inr (.inl ⟨rfl, step_ex _ rfl (.inl rfl) rfl (fun a ww hw hf hd => by
   have h25 : a.eval (.tmp 25) = Value.pointer (some ⟨p, 0, none⟩) := ((knows_in 1 25 (by decide) (by kernel_rfl) rfl rfl) : Knows _ _ _ _ _ _ 2 _ _) a ww hw hf hd
   revert h25
   generalize a.eval = ev
   intro h25
   unfold execOp
   simp only [h25]
   go_simp)⟩),
     .inr (.inl ⟨rfl, step_ex _ rfl (.inl rfl) rfl (fun a ww hw hf hd => by
   have h26 : a.eval (.tmp 26) = Value.pointer (some ⟨p, 0, none⟩) := ((knows_in 2 26 (by decide) (by kernel_rfl) rfl rfl) : Knows _ _ _ _ _ _ 3 _ _) a ww hw hf hd
   revert h26
   generalize a.eval = ev
   intro h26
   unfold execOp
   simp only [h26]
   go_simp)⟩),
     .inr (.inl ⟨rfl, step_ex _ rfl (.inl rfl) rfl (fun a ww hw hf hd => by
   have h27 : a.eval (.tmp 27) = Value.pointer (some ⟨p, 2, none⟩) := ((knows_in 3 27 (by decide) (by kernel_rfl) rfl rfl) : Knows _ _ _ _ _ _ 4 _ _) a ww hw hf hd
   have f0 : ww.cell? ⟨p, 2, none⟩ = some (Value.slice AS L.length cS) := (hp4.next hw).cell (i := 2) rfl
   revert h27
   generalize a.eval = ev
   intro h27
   unfold execOp
   simp only [h27]
   go_simp)⟩),
     .inr (.inl ⟨rfl, step_ex _ rfl (.inl rfl) rfl (fun a ww hw hf hd => by
   have h0 : a.eval (.tmp 0) = Value.pointer (some ⟨p, 0, none⟩) := ((knows_out 0 (by kernel_rfl) rfl) : Knows _ _ _ _ _ _ 5 _ _) a ww hw hf hd
   revert h0
   generalize a.eval = ev
   intro h0
   unfold execOp
   simp only [h0]
   go_simp)⟩),
     .inr (.inl ⟨rfl, step_ldV rfl (.inl rfl) (fun _ hw => (hB4.next hw).rw.range) rfl Tryz.underlying65 rfl (szV infT (tc_len _)) rfl (knows_out 3 (by kernel_rfl) rfl)⟩),
     .inr (.inl ⟨rfl, step_cw rfl (.inl rfl) rfl cxT155 rfl (fun aa ww hw hf hd => ⟨_, (two_args (knows_in 5 29 (by decide) (by kernel_rfl) rfl rfl) (knows_in 6 30 (by decide) (by kernel_rfl) rfl rfl)) aa ww hw hf hd, (Hsz ww hw)⟩)⟩),
     .inr (.inl ⟨rfl, step_bsl (.inl rfl) rfl Tryz.underlying101 infI (by decide) (by decide) (vs := [Value.int .i64 r]) (by first | kernel_rfl | rfl) rfl (parts1 (knows_in 7 31 (by decide) (by kernel_rfl) rfl rfl))⟩),
     .inl rfl, trivial⟩ _ rfl rfl ?_ ?_
  · intro a ww hw hf hd
    have h28 : a.eval (.tmp 28) = Value.slice AS L.length cS := hd 4 28 (by decide) (by kernel_rfl) rfl
    obtain ⟨b, hb1, hb0, hb2⟩ := hd 8 32 (by decide) (by kernel_rfl) rfl
    exact evt_app rfl rfl Tryz.underlying101 infIb rfl (by decide) (by decide) (row_next rS4 hw) h28 ⟨b, hb1, hb2⟩ rfl (by simp [Value.oneCell']) (by omega)
  intro val W2 W3 hw hS hR
  have e24 : val 24 = Value.pointer (some ⟨p, 0, none⟩) := hS 0 24 (by decide) (by decide) rfl
  have e25 : val 25 = Value.pointer (some ⟨p, 0, none⟩) := hS 1 25 (by decide) (by decide) rfl
  have e26 : val 26 = Value.pointer (some ⟨p, 0, none⟩) := hS 2 26 (by decide) (by decide) rfl
  have e27 : val 27 = Value.pointer (some ⟨p, 2, none⟩) := hS 3 27 (by decide) (by decide) rfl
  have e28 : val 28 = Value.slice AS L.length cS := hS 4 28 (by decide) (by decide) rfl
  have e29 : val 29 = Value.pointer (some ⟨p, 0, none⟩) := hS 5 29 (by decide) (by decide) rfl
  have e30 : val 30 = Value.agg (tc t).toArray := hS 6 30 (by decide) (by decide) rfl
  have e31 : val 31 = Value.int .i64 r := hS 7 31 (by decide) (by decide) rfl
  have hR := hR 33 rfl
  obtain ⟨A33, c33, e33, hl33, hm33, hr33, hg33, ho33⟩ := hR
  rw [e33] at hr33 ho33
  simp only [putVals, List.foldl_cons, List.foldl_nil, List.drop_succ_cons, List.drop_zero, Act.put, List.setIfInBounds_toArray, List.set_cons_succ, List.set_cons_zero, e24, e25, e26, e27, e28, e29, e30, e31, e33]
  generalize val 32 = g32
  clear e24 e25 e26 e27 e28 e29 e30 e31 e33 hS
  have hp5 := hp4.next hw
  have rT5 := row_next rT4 hw
  have rS5 := row_next rS4 hw
  have rX5 := row_next rX4 hw
  have mN5 := map_next mN4 hw
  have mI5 := map_next mI4 hw
  have hB5 := hB4.next hw
  have hp6 := hp5.grown hg33 (blk_ne hp5 rS5 (by decide))
  have rT6 := rT5.kept hg33 (row_ne rT5 rS5 (by decide))
  have rX6 := rX5.kept hg33 (row_ne rX5 rS5 (by decide))
  have mN6 := mN5.kept hg33 (map_ne mN5 rS5)
  have mI6 := mI5.kept hg33 (map_ne mI5 rS5)
  have hB6 := hB5.grown hg33 (fun e => by have := hlt4 _ e.symm; omega)
  have hz4 : w.heap.size ≤ W2.heap.size := Nat.le_trans hC4.size hw.size
  have hC6 := (hC4.next hw).grown hg33 (fun g e => .inl (.inr (.inr (.inr (.inr (.inl (by rw [← e]; exact (own0 _ _ _).symm)))))))
  have c2 := hp6.cell (i := 2) rfl
  have f2 := hp6.free 2
  obtain ⟨W7, hW7⟩ : ∃ W7, W3.setCell ⟨p, 2, none⟩ (.slice A33 (L.length + 1) c33) = W7 := ⟨_, rfl⟩
  have hp7 : Blk W7 p 126 [.bool true, .slice A21 (L.length + 1) c21, .slice A33 (L.length + 1) c33, .map (some mN), .slice AX X.length cX, .map (some mI), .int .i64 n0, .int .i64 n1, .int .i64 n2, .int .i64 n3, .int .i64 n4] := by rw [← hW7]; exact hp6.set 2 _
  have rT7 := row_setC rT6 hp6 (by decide) 2 (.slice A33 (L.length + 1) c33)
  have rS7 := row_setC hr33 hp6 (by decide) 2 (.slice A33 (L.length + 1) c33)
  have rX7 := row_setC rX6 hp6 (by decide) 2 (.slice A33 (L.length + 1) c33)
  have mN7 := mN6.setCell (a := ⟨p, 2, none⟩) (blk_map mN6 hp6) (.slice A33 (L.length + 1) c33)
  have mI7 := mI6.setCell (a := ⟨p, 2, none⟩) (blk_map mI6 hp6) (.slice A33 (L.length + 1) c33)
  have hB7 := hB6.other (a := ⟨p, 2, none⟩) (show p ≠ w.heap.size by omega) (.slice A33 (L.length + 1) c33)
  have hC7 := hC6.setCell (p := ⟨p, 2, none⟩) (.inl (.inl rfl)) (.slice A33 (L.length + 1) c33)
  rw [hW7] at rT7 rS7 rX7 mN7 mI7 hB7 hC7
  have hb33 : ∀ g, (Value.slice A33 0 c33).ownBlock = some g → foot p ⟨AT, cT, AS, cS, mN, AX, cX, mI, [n0, n1, n2, n3, n4]⟩ g ∨ w.heap.size ≤ g := fun g e => by
    rcases ho33 with h | h
    · exact .inl (.inr (.inr (.inr (.inr (.inl ((own0 _ _ _).symm.trans (h.symm.trans ((own0 _ _ _).trans e))))))))
    · have e2 := (own0 A33 (L.length + 1) c33).trans e
      rw [h] at e2; injection e2 with e2; exact .inr (by omega)
  have HW7 := hid hW7
  clear hp4 rT4 rS4 rX4 mN4 mI4 hB4 hp5 rT5 rS5 rX5 mN5 mI5 hB5 hp6 rT6 rX6 mN6 mI6 hB6 hC6 hC4 hg33 ho33 hr33 hw hW7 hz4 hlt4 Hsz
  go_upto_region 6 with (fail)
  rw [HW7.out]
  clear HW7 c2 f2
  refine region_spec2 6 64 (fun _ => false) [Is (Value.pointer (some ⟨p, 0, none⟩)), Is (Value.pointer (some ⟨p, 0, none⟩)), Is (Value.pointer (some ⟨p, 3, none⟩)), Is (Value.map (some mN)), Is (Value.agg (tc t).toArray), Is (Value.int .i64 (L.length : Nat))] [36, 37, 38, 39, 40, 41] (by kernel_rfl) (by kernel_rfl) (by kernel_rfl) (Nat.le_of_eq rfl) (grows_cons (Is.grows _) (grows_cons (Is.grows _) (grows_cons (Is.grows _) (grows_cons (Is.grows _) (grows_cons (Is.grows _) (grows_cons (Is.grows _) grows_nil))))))
    ⟨(step_ex _ rfl (.inl rfl) rfl (fun a ww hw hf hd => by
   have h0 : a.eval (.tmp 0) = Value.pointer (some ⟨p, 0, none⟩) := ((knows_out 0 (by kernel_rfl) rfl) : Knows _ _ _ _ _ _ 0 _ _) a ww hw hf hd
   revert h0
   generalize a.eval = ev
   intro h0
   unfold execOp
   simp only [h0]
   go_simp)),
     (step_ex _ rfl (.inl rfl) rfl (fun a ww hw hf hd => by
   have h36 : a.eval (.tmp 36) = Value.pointer (some ⟨p, 0, none⟩) := ((knows_in 0 36 (by decide) (by kernel_rfl) rfl rfl) : Knows _ _ _ _ _ _ 1 _ _) a ww hw hf hd
   revert h36
   generalize a.eval = ev
   intro h36
   unfold execOp
   simp only [h36]
   go_simp)),
     (step_ex _ rfl (.inl rfl) rfl (fun a ww hw hf hd => by
   have h37 : a.eval (.tmp 37) = Value.pointer (some ⟨p, 0, none⟩) := ((knows_in 1 37 (by decide) (by kernel_rfl) rfl rfl) : Knows _ _ _ _ _ _ 2 _ _) a ww hw hf hd
   revert h37
   generalize a.eval = ev
   intro h37
   unfold execOp
   simp only [h37]
   go_simp)),
     (step_ex _ rfl (.inl rfl) rfl (fun a ww hw hf hd => by
   have h38 : a.eval (.tmp 38) = Value.pointer (some ⟨p, 3, none⟩) := ((knows_in 2 38 (by decide) (by kernel_rfl) rfl rfl) : Knows _ _ _ _ _ _ 3 _ _) a ww hw hf hd
   have f0 : ww.cell? ⟨p, 3, none⟩ = some (Value.map (some mN)) := (hp7.next hw).cell (i := 3) rfl
   revert h38
   generalize a.eval = ev
   intro h38
   unfold execOp
   simp only [h38]
   go_simp)),
     (step_ldV rfl (.inl rfl) (fun _ hw => (hB7.next hw).rw.range) rfl Tryz.underlying65 rfl (szV infT (tc_len _)) rfl (knows_out 3 (by kernel_rfl) rfl)),
     (step_ex _ rfl (.inl rfl) rfl (fun a ww hw hf hd => by
   have h6 : a.eval (.tmp 6) = Value.int .i64 (L.length : Nat) := ((knows_out 6 (by kernel_rfl) rfl) : Knows _ _ _ _ _ _ 5 _ _) a ww hw hf hd
   revert h6
   generalize a.eval = ev
   intro h6
   unfold execOp
   simp only [h6]
   go_simp)), trivial⟩ ?_
  intro val W8 hw hS _ _
  have e36 : val 36 = Value.pointer (some ⟨p, 0, none⟩) := hS 0 36 (by decide) rfl
  have e37 : val 37 = Value.pointer (some ⟨p, 0, none⟩) := hS 1 37 (by decide) rfl
  have e38 : val 38 = Value.pointer (some ⟨p, 3, none⟩) := hS 2 38 (by decide) rfl
  have e39 : val 39 = Value.map (some mN) := hS 3 39 (by decide) rfl
  have e40 : val 40 = Value.agg (tc t).toArray := hS 4 40 (by decide) rfl
  have e41 : val 41 = Value.int .i64 (L.length : Nat) := hS 5 41 (by decide) rfl
  simp only [putVals, List.foldl_cons, List.foldl_nil, List.drop_succ_cons, List.drop_zero, Act.put, List.setIfInBounds_toArray, List.set_cons_succ, List.set_cons_zero, e36, e37, e38, e39, e40, e41]
  clear e36 e37 e38 e39 e40 e41 hS
  have hp8 := hp7.next hw
  have rT8 := row_next rT7 hw
  have rS8 := row_next rS7 hw
  have rX8 := row_next rX7 hw
  have mN8 := map_next mN7 hw
  have mI8 := map_next mI7 hw
  have hB8 := hB7.next hw
  have hC8 := hC7.next hw
  have hnlt : L.length < maxLen := by unfold maxLen; omega
  have hpe := plainElem_int (H := Unit) Tryz.underlying3 (q := .i64) (a := (L.length : Int)) (WalkArith.wf_i64 (by omega))
  go_upto_region 7 with (at_mapUpdate; refine wpList_mapUpdate_own _ rfl _ _ _ 121 rfl 65 3 lawT Tryz.underlying121 _ mN L.length DN rfl mN8 hnlt _ _ (tk t) rfl rfl (key_of t ht) (i64 L.length) [] hpe ?_; intro W9 mN9 hg9)
  have hnN : ∀ {b t : Nat} {cs : List Value}, Blk W8 b t cs → some b ≠ some mN := fun h e => by injection e with e; exact blk_map mN8 h e.symm
  have hnR : ∀ {e s n : Nat} {v : Value} {xs : List Value}, W8.ownsRow 0 e s v n xs → v.ownBlock = none ∨ v.ownBlock ≠ some mN := fun h => .inr fun e => map_ne mN8 h e.symm
  have hp9 := hp8.grown hg9 (hnN hp8)
  have rT9 := rT8.kept hg9 (hnR rT8)
  have rS9 := rS8.kept hg9 (hnR rS8)
  have rX9 := rX8.kept hg9 (hnR rX8)
  have hB9 := hB8.grown hg9 (hnN hB8)
  have mI9 := mI8.kept hg9 (fun e => hNI (by injection e))
  have hC9 := hC8.grown hg9 (fun g e => .inl (.inr (.inl (by injection e with e; exact e.symm))))
  clear hp7 rT7 rS7 rX7 mN7 mI7 hB7 hC7 hp8 rT8 rS8 rX8 mN8 mI8 hB8 hC8 hg9 hnN hnR hw hpe hnlt
  have hk := HK.out
  have hk1 : (t.1 == 1) = true := by rw [hk]; rfl
  have hk0 : t.1 = 1 := by rw [hk]
  obtain ⟨mi, hmi⟩ : ∃ m, (if (4611686018427387904 : Int) < tb then 4611686018427387904 else tb) = m := ⟨_, rfl⟩
  obtain ⟨mx, hmx⟩ : ∃ m, (if (mi + 1 : Int) > n3 then mi + 1 else n3) = m := ⟨_, rfl⟩
  have hmi0 : 0 ≤ mi ∧ mi ≤ 4611686018427387904 := by rw [← hmi]; split <;> omega
  have hwm : IntKind.i64.wrap (mi + 1) = mi + 1 := IntWalk.i64_in _ ⟨by omega, by omega⟩
  have hbump : [n0, n1, n2, mx, n4] = updN [n0, n1, n2, n3, n4] t := by
    rw [hk]
    simp only [updN, bump, hmi]
    simp [← hmx, List.getD]
  have Hmi := hid hmi
  have Hmx := hid hmx
  have HBU := hid hbump
  clear hmi hmx hmi0 hbump
  subst hk
  clear hk0
  have x0 := hB9.cell (i := 0) rfl
  dsimp only at hk1
  go_upto_region 8 with (fail)
  clear x0 hk1
  refine region_spec2 18 64 (fun _ => false) [Is (Value.pointer (some ⟨p, 0, none⟩)), Is (Value.pointer (some ⟨w.heap.size, 1, none⟩)), Is (Value.int .i64 3), Is (Value.pointer (some ⟨p, 0, none⟩)), Is (Value.pointer (some ⟨w.heap.size, 1, none⟩)), Is (Value.int .i64 3), Is (Value.pointer (some ⟨p, 0, none⟩)), Is (Value.pointer (some ⟨p, 6, none⟩)), Is (Value.pointer (some ⟨p, 9, none⟩)), Is (Value.int .i64 n3), Is (Value.pointer (some ⟨w.heap.size, 2, none⟩)), Is (Value.int .i64 tb), Is (Value.int .i64 mi), Is (Value.int .i64 (mi + 1)), Is (Value.int .i64 mx), Is (Value.pointer (some ⟨p, 0, none⟩)), Is (Value.pointer (some ⟨p, 6, none⟩)), Is (Value.pointer (some ⟨p, 9, none⟩))] [45, 46, 47, 48, 49, 50, 51, 52, 53, 54, 55, 56, 57, 58, 59, 60, 61, 62] (by kernel_rfl) (by kernel_rfl) (by kernel_rfl) (Nat.le_of_eq rfl) (grows_cons (Is.grows _) (grows_cons (Is.grows _) (grows_cons (Is.grows _) (grows_cons (Is.grows _) (grows_cons (Is.grows _) (grows_cons (Is.grows _) (grows_cons (Is.grows _) (grows_cons (Is.grows _) (grows_cons (Is.grows _) (grows_cons (Is.grows _) (grows_cons (Is.grows _) (grows_cons (Is.grows _) (grows_cons (Is.grows _) (grows_cons (Is.grows _) (grows_cons (Is.grows _) (grows_cons (Is.grows _) (grows_cons (Is.grows _) (grows_cons (Is.grows _) grows_nil))))))))))))))))))
    ⟨(step_ex _ rfl (.inl rfl) rfl (fun a ww hw hf hd => by
   have h0 : a.eval (.tmp 0) = Value.pointer (some ⟨p, 0, none⟩) := ((knows_out 0 (by kernel_rfl) rfl) : Knows _ _ _ _ _ _ 0 _ _) a ww hw hf hd
   revert h0
   generalize a.eval = ev
   intro h0
   unfold execOp
   simp only [h0]
   go_simp)),
     (step_ex _ rfl (.inl rfl) rfl (fun a ww hw hf hd => by
   have h3 : a.eval (.tmp 3) = Value.pointer (some ⟨w.heap.size, 0, none⟩) := ((knows_out 3 (by kernel_rfl) rfl) : Knows _ _ _ _ _ _ 1 _ _) a ww hw hf hd
   revert h3
   generalize a.eval = ev
   intro h3
   unfold execOp
   simp only [h3]
   go_simp)),
     (step_ex _ rfl (.inl rfl) rfl (fun a ww hw hf hd => by
   have h46 : a.eval (.tmp 46) = Value.pointer (some ⟨w.heap.size, 1, none⟩) := ((knows_in 1 46 (by decide) (by kernel_rfl) rfl rfl) : Knows _ _ _ _ _ _ 2 _ _) a ww hw hf hd
   have f0 : ww.cell? ⟨w.heap.size, 1, none⟩ = some (Value.int .i64 3) := (hB9.next hw).cell (i := 1) rfl
   revert h46
   generalize a.eval = ev
   intro h46
   unfold execOp
   simp only [h46]
   go_simp)),
     (step_ex _ rfl (.inl rfl) rfl (fun a ww hw hf hd => by
   have h0 : a.eval (.tmp 0) = Value.pointer (some ⟨p, 0, none⟩) := ((knows_out 0 (by kernel_rfl) rfl) : Knows _ _ _ _ _ _ 3 _ _) a ww hw hf hd
   revert h0
   generalize a.eval = ev
   intro h0
   unfold execOp
   simp only [h0]
   go_simp)),
     (step_ex _ rfl (.inl rfl) rfl (fun a ww hw hf hd => by
   have h3 : a.eval (.tmp 3) = Value.pointer (some ⟨w.heap.size, 0, none⟩) := ((knows_out 3 (by kernel_rfl) rfl) : Knows _ _ _ _ _ _ 4 _ _) a ww hw hf hd
   revert h3
   generalize a.eval = ev
   intro h3
   unfold execOp
   simp only [h3]
   go_simp)),
     (step_ex _ rfl (.inl rfl) rfl (fun a ww hw hf hd => by
   have h49 : a.eval (.tmp 49) = Value.pointer (some ⟨w.heap.size, 1, none⟩) := ((knows_in 4 49 (by decide) (by kernel_rfl) rfl rfl) : Knows _ _ _ _ _ _ 5 _ _) a ww hw hf hd
   have f0 : ww.cell? ⟨w.heap.size, 1, none⟩ = some (Value.int .i64 3) := (hB9.next hw).cell (i := 1) rfl
   revert h49
   generalize a.eval = ev
   intro h49
   unfold execOp
   simp only [h49]
   go_simp)),
     (step_ex _ rfl (.inl rfl) rfl (fun a ww hw hf hd => by
   have h48 : a.eval (.tmp 48) = Value.pointer (some ⟨p, 0, none⟩) := ((knows_in 3 48 (by decide) (by kernel_rfl) rfl rfl) : Knows _ _ _ _ _ _ 6 _ _) a ww hw hf hd
   revert h48
   generalize a.eval = ev
   intro h48
   unfold execOp
   simp only [h48]
   go_simp)),
     (step_ex _ rfl (.inl rfl) rfl (fun a ww hw hf hd => by
   have h51 : a.eval (.tmp 51) = Value.pointer (some ⟨p, 0, none⟩) := ((knows_in 6 51 (by decide) (by kernel_rfl) rfl rfl) : Knows _ _ _ _ _ _ 7 _ _) a ww hw hf hd
   revert h51
   generalize a.eval = ev
   intro h51
   unfold execOp
   simp only [h51]
   go_simp)),
     (step_ex _ rfl (.inl rfl) rfl (fun a ww hw hf hd => by
   have h52 : a.eval (.tmp 52) = Value.pointer (some ⟨p, 6, none⟩) := ((knows_in 7 52 (by decide) (by kernel_rfl) rfl rfl) : Knows _ _ _ _ _ _ 8 _ _) a ww hw hf hd
   have h50 : a.eval (.tmp 50) = Value.int .i64 3 := ((knows_in 5 50 (by decide) (by kernel_rfl) rfl rfl) : Knows _ _ _ _ _ _ 8 _ _) a ww hw hf hd
   revert h52 h50
   generalize a.eval = ev
   intro h52 h50
   unfold execOp
   simp only [h52, h50]
   go_simp)),
     (step_ex _ rfl (.inl rfl) rfl (fun a ww hw hf hd => by
   have h53 : a.eval (.tmp 53) = Value.pointer (some ⟨p, 9, none⟩) := ((knows_in 8 53 (by decide) (by kernel_rfl) rfl rfl) : Knows _ _ _ _ _ _ 9 _ _) a ww hw hf hd
   have f0 : ww.cell? ⟨p, 9, none⟩ = some (Value.int .i64 n3) := (hp9.next hw).cell (i := 9) rfl
   revert h53
   generalize a.eval = ev
   intro h53
   unfold execOp
   simp only [h53]
   go_simp)),
     (step_ex _ rfl (.inl rfl) rfl (fun a ww hw hf hd => by
   have h3 : a.eval (.tmp 3) = Value.pointer (some ⟨w.heap.size, 0, none⟩) := ((knows_out 3 (by kernel_rfl) rfl) : Knows _ _ _ _ _ _ 10 _ _) a ww hw hf hd
   revert h3
   generalize a.eval = ev
   intro h3
   unfold execOp
   simp only [h3]
   go_simp)),
     (step_ex _ rfl (.inl rfl) rfl (fun a ww hw hf hd => by
   have h55 : a.eval (.tmp 55) = Value.pointer (some ⟨w.heap.size, 2, none⟩) := ((knows_in 10 55 (by decide) (by kernel_rfl) rfl rfl) : Knows _ _ _ _ _ _ 11 _ _) a ww hw hf hd
   have f0 : ww.cell? ⟨w.heap.size, 2, none⟩ = some (Value.int .i64 tb) := (hB9.next hw).cell (i := 2) rfl
   revert h55
   generalize a.eval = ev
   intro h55
   unfold execOp
   simp only [h55]
   go_simp)),
     (step_min rfl (.inl rfl) rfl rfl Hmi.out (knows_in 11 56 (by decide) (by kernel_rfl) rfl rfl) (knows_const _)),
     (step_ex _ rfl (.inl rfl) rfl (fun a ww hw hf hd => by
   have h57 : a.eval (.tmp 57) = Value.int .i64 mi := ((knows_in 12 57 (by decide) (by kernel_rfl) rfl rfl) : Knows _ _ _ _ _ _ 13 _ _) a ww hw hf hd
   have f0 := hwm
   have hc := ec a
   revert hc h57
   generalize a.eval = ev
   intro hc h57
   unfold execOp
   simp only [hc, h57]
   go_simp)),
     (step_max rfl (.inl rfl) rfl rfl Hmx.out (knows_in 9 54 (by decide) (by kernel_rfl) rfl rfl) (knows_in 13 58 (by decide) (by kernel_rfl) rfl rfl)),
     (step_ex _ rfl (.inl rfl) rfl (fun a ww hw hf hd => by
   have h45 : a.eval (.tmp 45) = Value.pointer (some ⟨p, 0, none⟩) := ((knows_in 0 45 (by decide) (by kernel_rfl) rfl rfl) : Knows _ _ _ _ _ _ 15 _ _) a ww hw hf hd
   revert h45
   generalize a.eval = ev
   intro h45
   unfold execOp
   simp only [h45]
   go_simp)),
     (step_ex _ rfl (.inl rfl) rfl (fun a ww hw hf hd => by
   have h60 : a.eval (.tmp 60) = Value.pointer (some ⟨p, 0, none⟩) := ((knows_in 15 60 (by decide) (by kernel_rfl) rfl rfl) : Knows _ _ _ _ _ _ 16 _ _) a ww hw hf hd
   revert h60
   generalize a.eval = ev
   intro h60
   unfold execOp
   simp only [h60]
   go_simp)),
     (step_ex _ rfl (.inl rfl) rfl (fun a ww hw hf hd => by
   have h61 : a.eval (.tmp 61) = Value.pointer (some ⟨p, 6, none⟩) := ((knows_in 16 61 (by decide) (by kernel_rfl) rfl rfl) : Knows _ _ _ _ _ _ 17 _ _) a ww hw hf hd
   have h47 : a.eval (.tmp 47) = Value.int .i64 3 := ((knows_in 2 47 (by decide) (by kernel_rfl) rfl rfl) : Knows _ _ _ _ _ _ 17 _ _) a ww hw hf hd
   revert h61 h47
   generalize a.eval = ev
   intro h61 h47
   unfold execOp
   simp only [h61, h47]
   go_simp)), trivial⟩ ?_
  intro val W10 hw hS _ _
  have e45 : val 45 = Value.pointer (some ⟨p, 0, none⟩) := hS 0 45 (by decide) rfl
  have e46 : val 46 = Value.pointer (some ⟨w.heap.size, 1, none⟩) := hS 1 46 (by decide) rfl
  have e47 : val 47 = Value.int .i64 3 := hS 2 47 (by decide) rfl
  have e48 : val 48 = Value.pointer (some ⟨p, 0, none⟩) := hS 3 48 (by decide) rfl
  have e49 : val 49 = Value.pointer (some ⟨w.heap.size, 1, none⟩) := hS 4 49 (by decide) rfl
  have e50 : val 50 = Value.int .i64 3 := hS 5 50 (by decide) rfl
  have e51 : val 51 = Value.pointer (some ⟨p, 0, none⟩) := hS 6 51 (by decide) rfl
  have e52 : val 52 = Value.pointer (some ⟨p, 6, none⟩) := hS 7 52 (by decide) rfl
  have e53 : val 53 = Value.pointer (some ⟨p, 9, none⟩) := hS 8 53 (by decide) rfl
  have e54 : val 54 = Value.int .i64 n3 := hS 9 54 (by decide) rfl
  have e55 : val 55 = Value.pointer (some ⟨w.heap.size, 2, none⟩) := hS 10 55 (by decide) rfl
  have e56 : val 56 = Value.int .i64 tb := hS 11 56 (by decide) rfl
  have e57 : val 57 = Value.int .i64 mi := hS 12 57 (by decide) rfl
  have e58 : val 58 = Value.int .i64 (mi + 1) := hS 13 58 (by decide) rfl
  have e59 : val 59 = Value.int .i64 mx := hS 14 59 (by decide) rfl
  have e60 : val 60 = Value.pointer (some ⟨p, 0, none⟩) := hS 15 60 (by decide) rfl
  have e61 : val 61 = Value.pointer (some ⟨p, 6, none⟩) := hS 16 61 (by decide) rfl
  have e62 : val 62 = Value.pointer (some ⟨p, 9, none⟩) := hS 17 62 (by decide) rfl
  simp only [putVals, List.foldl_cons, List.foldl_nil, List.drop_succ_cons, List.drop_zero, Act.put, List.setIfInBounds_toArray, List.set_cons_succ, List.set_cons_zero, e45, e46, e47, e48, e49, e50, e51, e52, e53, e54, e55, e56, e57, e58, e59, e60, e61, e62]
  clear e45 e46 e47 e48 e49 e50 e51 e52 e53 e54 e55 e56 e57 e58 e59 e60 e61 e62 hS
  have hp10 := hp9.next hw
  have c10 := hp10.cell (i := 9) rfl
  have f10 := hp10.free 9
  obtain ⟨W11, hW11⟩ : ∃ W11, W10.setCell ⟨p, 9, none⟩ (.int .i64 mx) = W11 := ⟨_, rfl⟩
  have hp11 : Blk W11 p 126 ((Lay.mk A21 c21 A33 c33 mN AX cX mI [n0, n1, n2, mx, n4]).cells (L.length + 1) X.length) := by rw [← hW11]; exact hp10.set 9 _
  have rT11 := row_setC (row_next rT9 hw) hp10 (by decide) 9 (.int .i64 mx)
  have rS11 := row_setC (row_next rS9 hw) hp10 (by decide) 9 (.int .i64 mx)
  have rX11 := row_setC (row_next rX9 hw) hp10 (by decide) 9 (.int .i64 mx)
  have mN11 := (map_next mN9 hw).setCell (a := ⟨p, 9, none⟩) (blk_map (map_next mN9 hw) hp10) (.int .i64 mx)
  have mI11 := (map_next mI9 hw).setCell (a := ⟨p, 9, none⟩) (blk_map (map_next mI9 hw) hp10) (.int .i64 mx)
  have h11C := (hC9.next hw).setCell (p := ⟨p, 9, none⟩) (.inl (.inl rfl)) (.int .i64 mx)
  rw [hW11] at rT11 rS11 rX11 mN11 mI11 h11C
  have HW11 := hid hW11
  clear hW11 hw hp9 rT9 rS9 rX9 mN9 mI9 hB9 hC9 hp10
  go_upto_region 9 with (fail)
  rw [HW11.out]
  clear HW11 c10 f10
  go_wp2
  go_ret2
  have hlen : (L ++ [(1, 3, tb)]).length = L.length + 1 := by simp
  have hfl : flatZ (L ++ [(1, 3, tb)]) = flatZ L ++ tc (1, 3, tb) := by rw [flat_appZ, flat_one]
  have hzz : ints .i64 (zs ++ [r]) = ints .i64 zs ++ [Value.int .i64 r] := ints_app _ _ _
  refine ⟨rfl, ⟨A21, c21, A33, c33, mN, AX, cX, mI, [n0, n1, n2, mx, n4]⟩, HBU.out, rfl, rfl, ?_, h11C, fun b hb => ?_⟩
  · rw [HR.out]
    refine ⟨by rw [hlen]; exact hp11, by rw [hlen, hfl]; exact rT11, by rw [hlen, hzz]; exact rS11, rX11, by rw [hlen]; exact mN11, mI11⟩
  · rcases hb with h | h | h | h | h | h
    · exact .inl (.inl h)
    · exact .inl (.inr (.inl h))
    · exact .inl (.inr (.inr (.inl h)))
    · exact hb21 b h
    · exact hb33 b h
    · exact .inl (.inr (.inr (.inr (.inr (.inr h)))))
set_option maxRecDepth 50000 in
set_option maxHeartbeats 4000000 in
theorem add_atom4 (p : Nat) (AT AS AX : Option Addr) (cT cS mN cX mI : Nat) (n0 n1 n2 n3 n4 : Int) (zs : List Int) (DN DI : D0) (L : List T3) (X : List (List Int)) (t : T3) (tb : Int) (hk : t = (1, 4, tb)) (hb0 : 0 ≤ tb) (hb1 : n4 ≤ 4611686018427387905) (hb2 : 0 ≤ n4) (hNI : mI ≠ mN) (w : World) (hT : TS w p ⟨AT, cT, AS, cS, mN, AX, cX, mI, [n0, n1, n2, n3, n4]⟩ zs DN DI L X) (ht : Twf t) (hzl : zs.length = L.length) (hzb : ∀ z ∈ zs, 1 ≤ z ∧ z ≤ 1048576) (hL : L.length ≤ 40) (x : Nat) (hwf : WFt L.length x t) :
    Calls Tryz.prog 101 #[.pointer (some ⟨p, 0, none⟩), tv t] w fun e w' => e = .returned (.tuple #[.int .i64 L.length, .int .i64 0]) ∧ AddR p ⟨AT, cT, AS, cS, mN, AX, cX, mI, [n0, n1, n2, n3, n4]⟩ zs DN DI L X t w w' := by
  have HK := hid hk
  clear hk
  obtain ⟨W, hW, d0, d1, d2, hB, hB3⟩ := term_world t w
  have hT1 := hT.next hB
  have hC1 : Chg (foot p ⟨AT, cT, AS, cS, mN, AX, cX, mI, [n0, n1, n2, n3, n4]⟩) w W := Chg.of hB _
  have c1 : W.cell? ⟨p, 1, none⟩ = some (.slice AT L.length cT) := hT1.blk.cell (i := 1) rfl
  have hlt3 : ∀ g, (Value.slice AT L.length cT).ownBlock = some g → g < w.heap.size := rowlt hT.rT
  have hlt4 : ∀ g, (Value.slice AS L.length cS).ownBlock = some g → g < w.heap.size := rowlt hT.rS
  have hltN := hT.mN.lt
  have hltp := hT.blk.lt
  obtain ⟨r, hr⟩ : ∃ r, szOf zs t = r := ⟨_, rfl⟩
  have HR := hid hr
  have hne : ((L.length : Int) == 65536) = false := beq_false_of_ne (by omega)
  have HW := hid hW
  clear hr hW d0 d1 d2
  unfold tv
  go_enter Tryz.func101, Tryz.ntmps101
  go_upto_region 1 with (fail)
  rw [HW.out]
  clear HW hT hB
  go_upto_region 4 with (fail)
  clear c1 hne
  refine region_evt 8 7 64 [false, true, true, true, true, true, true, false] [Is (Value.pointer (some ⟨p, 0, none⟩)), Is (Value.pointer (some ⟨p, 0, none⟩)), Is (Value.pointer (some ⟨p, 0, none⟩)), Is (Value.pointer (some ⟨p, 1, none⟩)), Is (Value.slice AT L.length cT), Is (Value.agg (tc t).toArray), IsRowV W.heap.size 1 (tc t), (fun _ _ => True)] [14, 15, 16, 17, 18, 19, 20, 21] (AppR 65 3 (.slice AT L.length cT) L.length (flatZ L) (tc t)) (by kernel_rfl) (by kernel_rfl) (by kernel_rfl) (Nat.le_of_eq rfl) (grows_cons (Is.grows _) (grows_cons (Is.grows _) (grows_cons (Is.grows _) (grows_cons (Is.grows _) (grows_cons (Is.grows _) (grows_cons (Is.grows _) (grows_cons (IsRowV.grows _ _ _) (grows_cons (fun _ _ _ _ _ => trivial) grows_nil))))))))
    ⟨.inr (.inr ⟨rfl, pure_ex (Value.pointer (some ⟨p, 0, none⟩)) rfl rfl (fun a w0 ww hw hf hd => by
   have h0 : a.eval (.tmp 0) = Value.pointer (some ⟨p, 0, none⟩) := ((knows_out 0 (by kernel_rfl) rfl) : Knows _ _ _ _ _ _ 0 _ _) a w0 hw hf hd
   revert h0
   generalize a.eval = ev
   intro h0
   unfold execOp
   simp only [h0]
   go_simp)⟩),
     .inr (.inl ⟨rfl, step_ex _ rfl (.inl rfl) rfl (fun a ww hw hf hd => by
   have h0 : a.eval (.tmp 0) = Value.pointer (some ⟨p, 0, none⟩) := ((knows_out 0 (by kernel_rfl) rfl) : Knows _ _ _ _ _ _ 1 _ _) a ww hw hf hd
   revert h0
   generalize a.eval = ev
   intro h0
   unfold execOp
   simp only [h0]
   go_simp)⟩),
     .inr (.inl ⟨rfl, step_ex _ rfl (.inl rfl) rfl (fun a ww hw hf hd => by
   have h15 : a.eval (.tmp 15) = Value.pointer (some ⟨p, 0, none⟩) := ((knows_in 1 15 (by decide) (by kernel_rfl) rfl rfl) : Knows _ _ _ _ _ _ 2 _ _) a ww hw hf hd
   revert h15
   generalize a.eval = ev
   intro h15
   unfold execOp
   simp only [h15]
   go_simp)⟩),
     .inr (.inl ⟨rfl, step_ex _ rfl (.inl rfl) rfl (fun a ww hw hf hd => by
   have h16 : a.eval (.tmp 16) = Value.pointer (some ⟨p, 0, none⟩) := ((knows_in 2 16 (by decide) (by kernel_rfl) rfl rfl) : Knows _ _ _ _ _ _ 3 _ _) a ww hw hf hd
   revert h16
   generalize a.eval = ev
   intro h16
   unfold execOp
   simp only [h16]
   go_simp)⟩),
     .inr (.inl ⟨rfl, step_ex _ rfl (.inl rfl) rfl (fun a ww hw hf hd => by
   have h17 : a.eval (.tmp 17) = Value.pointer (some ⟨p, 1, none⟩) := ((knows_in 3 17 (by decide) (by kernel_rfl) rfl rfl) : Knows _ _ _ _ _ _ 4 _ _) a ww hw hf hd
   have f0 : ww.cell? ⟨p, 1, none⟩ = some (Value.slice AT L.length cT) := (hT1.blk.next hw).cell (i := 1) rfl
   revert h17
   generalize a.eval = ev
   intro h17
   unfold execOp
   simp only [h17]
   go_simp)⟩),
     .inr (.inl ⟨rfl, step_ldV rfl (.inl rfl) (fun _ hw => (hB3.next hw).rw.range) rfl Tryz.underlying65 rfl (szV infT (tc_len _)) rfl (knows_out 3 (by kernel_rfl) rfl)⟩),
     .inr (.inl ⟨rfl, step_bsl (.inl rfl) rfl Tryz.underlying120 infT (by decide) (by decide) (vs := (tc t)) (by first | kernel_rfl | rfl) rfl (parts1 (knows_in 5 19 (by decide) (by kernel_rfl) rfl rfl))⟩),
     .inl rfl, trivial⟩ _ rfl rfl ?_ ?_
  · intro a ww hw hf hd
    have h18 : a.eval (.tmp 18) = Value.slice AT L.length cT := hd 4 18 (by decide) (by kernel_rfl) rfl
    obtain ⟨b, hb1, hb0, hb2⟩ := hd 6 20 (by decide) (by kernel_rfl) rfl
    exact evt_app rfl rfl Tryz.underlying120 infTb rfl (by decide) (by decide) (row_next hT1.rT hw) h18 ⟨b, hb1, hb2⟩ rfl (tc_one t) (by omega)
  intro val W2 W3 hw hS hR
  have e14 : val 14 = Value.pointer (some ⟨p, 0, none⟩) := hS 0 14 (by decide) (by decide) rfl
  have e15 : val 15 = Value.pointer (some ⟨p, 0, none⟩) := hS 1 15 (by decide) (by decide) rfl
  have e16 : val 16 = Value.pointer (some ⟨p, 0, none⟩) := hS 2 16 (by decide) (by decide) rfl
  have e17 : val 17 = Value.pointer (some ⟨p, 1, none⟩) := hS 3 17 (by decide) (by decide) rfl
  have e18 : val 18 = Value.slice AT L.length cT := hS 4 18 (by decide) (by decide) rfl
  have e19 : val 19 = Value.agg (tc t).toArray := hS 5 19 (by decide) (by decide) rfl
  have hR := hR 21 rfl
  obtain ⟨A21, c21, e21, hl21, hm21, hr21, hg21, ho21⟩ := hR
  rw [e21] at hr21 ho21
  simp only [putVals, List.foldl_cons, List.foldl_nil, List.drop_succ_cons, List.drop_zero, Act.put, List.setIfInBounds_toArray, List.set_cons_succ, List.set_cons_zero, e14, e15, e16, e17, e18, e19, e21]
  generalize val 20 = g20
  clear e14 e15 e16 e17 e18 e19 e21 hS
  have hT2 := hT1.next hw
  have hp3 := hT2.blk.grown hg21 (blk_ne hT2.blk hT2.rT (by decide))
  have rS3 := hT2.rS.kept hg21 (row_ne hT2.rS hT2.rT (by decide))
  have rX3 := hT2.rX.kept hg21 (row_ne hT2.rX hT2.rT (by decide))
  have mN3 := hT2.mN.kept hg21 (map_ne hT2.mN hT2.rT)
  have mI3 := hT2.mI.kept hg21 (map_ne hT2.mI hT2.rT)
  have hB33 := (hB3.next hw).grown hg21 (fun e => by have := hlt3 _ e.symm; omega)
  have hz2 : w.heap.size ≤ W2.heap.size := Nat.le_trans hC1.size hw.size
  have hC3 := (hC1.next hw).grown hg21 (fun g e => .inl (.inr (.inr (.inr (.inl (by rw [← e]; exact (own0 _ _ _).symm))))))
  have c1 := hp3.cell (i := 1) rfl
  have f1 := hp3.free 1
  obtain ⟨W4, hW4⟩ : ∃ W4, W3.setCell ⟨p, 1, none⟩ (.slice A21 (L.length + 1) c21) = W4 := ⟨_, rfl⟩
  have hp4 : Blk W4 p 126 [.bool true, .slice A21 (L.length + 1) c21, .slice AS L.length cS, .map (some mN), .slice AX X.length cX, .map (some mI), .int .i64 n0, .int .i64 n1, .int .i64 n2, .int .i64 n3, .int .i64 n4] := by rw [← hW4]; exact hp3.set 1 _
  have rT4 := row_setC hr21 hp3 (by decide) 1 (.slice A21 (L.length + 1) c21)
  have rS4 := row_setC rS3 hp3 (by decide) 1 (.slice A21 (L.length + 1) c21)
  have rX4 := row_setC rX3 hp3 (by decide) 1 (.slice A21 (L.length + 1) c21)
  have mN4 := mN3.setCell (a := ⟨p, 1, none⟩) (blk_map mN3 hp3) (.slice A21 (L.length + 1) c21)
  have mI4 := mI3.setCell (a := ⟨p, 1, none⟩) (blk_map mI3 hp3) (.slice A21 (L.length + 1) c21)
  have hB4 := hB33.other (a := ⟨p, 1, none⟩) (show p ≠ w.heap.size by omega) (.slice A21 (L.length + 1) c21)
  have hC4 := hC3.setCell (p := ⟨p, 1, none⟩) (.inl (.inl rfl)) (.slice A21 (L.length + 1) c21)
  rw [hW4] at rT4 rS4 rX4 mN4 mI4 hB4 hC4
  have hb21 : ∀ g, (Value.slice A21 0 c21).ownBlock = some g → foot p ⟨AT, cT, AS, cS, mN, AX, cX, mI, [n0, n1, n2, n3, n4]⟩ g ∨ w.heap.size ≤ g := fun g e => by
    rcases ho21 with h | h
    · exact .inl (.inr (.inr (.inr (.inl ((own0 _ _ _).symm.trans (h.symm.trans ((own0 _ _ _).trans e)))))))
    · have e2 := (own0 A21 (L.length + 1) c21).trans e
      rw [h] at e2; injection e2 with e2; exact .inr (by omega)
  have HW4 := hid hW4
  clear hT1 hT2 hp3 rS3 rX3 mN3 mI3 hB33 hB3 hC3 hC1 hg21 ho21 hr21 hw hW4 hz2 hlt3
  have Hsz : ∀ ww, Cl W4 ww → Calls Tryz.prog 155 #[.pointer (some ⟨p, 0, none⟩), tv t] ww fun e w' => e = .returned (.int .i64 r) ∧ Below ww.heap.size ww w' := fun ww hw => by
    have hS4 : Owns ww 0 3 .i64 (.slice AS zs.length cS) zs := by
      have := row_next rS4 hw
      rw [← hzl] at this
      exact this
    have h := size_any p cS x AS zs t ww (by rw [hzl]; exact hwf) (by rw [hzl]; exact (hp4.next hw).cell (i := 2) rfl) hS4.nums hzb
    rw [HR.out] at h
    exact h
  go_upto_region 5 with (fail)
  rw [HW4.out]
  clear HW4 c1 f1
  skip
  refine region_evt 10 9 64 [false, true, true, true, true, true, true, true, true, false] [Is (Value.pointer (some ⟨p, 0, none⟩)), Is (Value.pointer (some ⟨p, 0, none⟩)), Is (Value.pointer (some ⟨p, 0, none⟩)), Is (Value.pointer (some ⟨p, 2, none⟩)), Is (Value.slice AS L.length cS), Is (Value.pointer (some ⟨p, 0, none⟩)), Is (Value.agg (tc t).toArray), Is (Value.int .i64 r), IsRowV W4.heap.size 1 [Value.int .i64 r], (fun _ _ => True)] [24, 25, 26, 27, 28, 29, 30, 31, 32, 33] (AppR 3 1 (.slice AS L.length cS) L.length (ints .i64 zs) [Value.int .i64 r]) (by kernel_rfl) (by kernel_rfl) (by kernel_rfl) (Nat.le_of_eq rfl) (grows_cons (Is.grows _) (grows_cons (Is.grows _) (grows_cons (Is.grows _) (grows_cons (Is.grows _) (grows_cons (Is.grows _) (grows_cons (Is.grows _) (grows_cons (Is.grows _) (grows_cons (Is.grows _) (grows_cons (IsRowV.grows _ _ _) (grows_cons (fun _ _ _ _ _ => trivial) grows_nil))))))))))
    ⟨.inr (.inr ⟨rfl, pure_ex (Value.pointer (some ⟨p, 0, none⟩)) rfl rfl (fun a w0 ww hw hf hd => by
   have h0 : a.eval (.tmp 0) = Value.pointer (some ⟨p, 0, none⟩) := ((knows_out 0 (by kernel_rfl) rfl) : Knows _ _ _ _ _ _ 0 _ _) a w0 hw hf hd
   revert h0
   generalize a.eval = ev
   intro h0
   unfold execOp
   simp only [h0]
   go_simp)⟩),
     .inr (.inl ⟨rfl, step_ex _ rfl (.inl rfl) rfl (fun a ww hw hf hd => by
   have h0 : a.eval (.tmp 0) = Value.pointer (some ⟨p, 0, none⟩) := ((knows_out 0 (by kernel_rfl) rfl) : Knows _ _ _ _ _ _ 1 _ _) a ww hw hf hd
   revert h0
   generalize a.eval = ev
   intro h0
   unfold execOp
   simp only [h0]
   go_simp)⟩),
     .inr (.inl ⟨rfl, step_ex _ rfl (.inl rfl) rfl (fun a ww hw hf hd => by
   have h25 : a.eval (.tmp 25) = Value.pointer (some ⟨p, 0, none⟩) := ((knows_in 1 25 (by decide) (by kernel_rfl) rfl rfl) : Knows _ _ _ _ _ _ 2 _ _) a ww hw hf hd
   revert h25
   generalize a.eval = ev
   intro h25
   unfold execOp
   simp only [h25]
   go_simp)⟩),
     .inr (.inl ⟨rfl, step_ex _ rfl (.inl rfl) rfl (fun a ww hw hf hd => by
   have h26 : a.eval (.tmp 26) = Value.pointer (some ⟨p, 0, none⟩) := ((knows_in 2 26 (by decide) (by kernel_rfl) rfl rfl) : Knows _ _ _ _ _ _ 3 _ _) a ww hw hf hd
   revert h26
   generalize a.eval = ev
   intro h26
   unfold execOp
   simp only [h26]
   go_simp)⟩),
     .inr (.inl ⟨rfl, step_ex _ rfl (.inl rfl) rfl (fun a ww hw hf hd => by
   have h27 : a.eval (.tmp 27) = Value.pointer (some ⟨p, 2, none⟩) := ((knows_in 3 27 (by decide) (by kernel_rfl) rfl rfl) : Knows _ _ _ _ _ _ 4 _ _) a ww hw hf hd
   have f0 : ww.cell? ⟨p, 2, none⟩ = some (Value.slice AS L.length cS) := (hp4.next hw).cell (i := 2) rfl
   revert h27
   generalize a.eval = ev
   intro h27
   unfold execOp
   simp only [h27]
   go_simp)⟩),
     .inr (.inl ⟨rfl, step_ex _ rfl (.inl rfl) rfl (fun a ww hw hf hd => by
   have h0 : a.eval (.tmp 0) = Value.pointer (some ⟨p, 0, none⟩) := ((knows_out 0 (by kernel_rfl) rfl) : Knows _ _ _ _ _ _ 5 _ _) a ww hw hf hd
   revert h0
   generalize a.eval = ev
   intro h0
   unfold execOp
   simp only [h0]
   go_simp)⟩),
     .inr (.inl ⟨rfl, step_ldV rfl (.inl rfl) (fun _ hw => (hB4.next hw).rw.range) rfl Tryz.underlying65 rfl (szV infT (tc_len _)) rfl (knows_out 3 (by kernel_rfl) rfl)⟩),
     .inr (.inl ⟨rfl, step_cw rfl (.inl rfl) rfl cxT155 rfl (fun aa ww hw hf hd => ⟨_, (two_args (knows_in 5 29 (by decide) (by kernel_rfl) rfl rfl) (knows_in 6 30 (by decide) (by kernel_rfl) rfl rfl)) aa ww hw hf hd, (Hsz ww hw)⟩)⟩),
     .inr (.inl ⟨rfl, step_bsl (.inl rfl) rfl Tryz.underlying101 infI (by decide) (by decide) (vs := [Value.int .i64 r]) (by first | kernel_rfl | rfl) rfl (parts1 (knows_in 7 31 (by decide) (by kernel_rfl) rfl rfl))⟩),
     .inl rfl, trivial⟩ _ rfl rfl ?_ ?_
  · intro a ww hw hf hd
    have h28 : a.eval (.tmp 28) = Value.slice AS L.length cS := hd 4 28 (by decide) (by kernel_rfl) rfl
    obtain ⟨b, hb1, hb0, hb2⟩ := hd 8 32 (by decide) (by kernel_rfl) rfl
    exact evt_app rfl rfl Tryz.underlying101 infIb rfl (by decide) (by decide) (row_next rS4 hw) h28 ⟨b, hb1, hb2⟩ rfl (by simp [Value.oneCell']) (by omega)
  intro val W2 W3 hw hS hR
  have e24 : val 24 = Value.pointer (some ⟨p, 0, none⟩) := hS 0 24 (by decide) (by decide) rfl
  have e25 : val 25 = Value.pointer (some ⟨p, 0, none⟩) := hS 1 25 (by decide) (by decide) rfl
  have e26 : val 26 = Value.pointer (some ⟨p, 0, none⟩) := hS 2 26 (by decide) (by decide) rfl
  have e27 : val 27 = Value.pointer (some ⟨p, 2, none⟩) := hS 3 27 (by decide) (by decide) rfl
  have e28 : val 28 = Value.slice AS L.length cS := hS 4 28 (by decide) (by decide) rfl
  have e29 : val 29 = Value.pointer (some ⟨p, 0, none⟩) := hS 5 29 (by decide) (by decide) rfl
  have e30 : val 30 = Value.agg (tc t).toArray := hS 6 30 (by decide) (by decide) rfl
  have e31 : val 31 = Value.int .i64 r := hS 7 31 (by decide) (by decide) rfl
  have hR := hR 33 rfl
  obtain ⟨A33, c33, e33, hl33, hm33, hr33, hg33, ho33⟩ := hR
  rw [e33] at hr33 ho33
  simp only [putVals, List.foldl_cons, List.foldl_nil, List.drop_succ_cons, List.drop_zero, Act.put, List.setIfInBounds_toArray, List.set_cons_succ, List.set_cons_zero, e24, e25, e26, e27, e28, e29, e30, e31, e33]
  generalize val 32 = g32
  clear e24 e25 e26 e27 e28 e29 e30 e31 e33 hS
  have hp5 := hp4.next hw
  have rT5 := row_next rT4 hw
  have rS5 := row_next rS4 hw
  have rX5 := row_next rX4 hw
  have mN5 := map_next mN4 hw
  have mI5 := map_next mI4 hw
  have hB5 := hB4.next hw
  have hp6 := hp5.grown hg33 (blk_ne hp5 rS5 (by decide))
  have rT6 := rT5.kept hg33 (row_ne rT5 rS5 (by decide))
  have rX6 := rX5.kept hg33 (row_ne rX5 rS5 (by decide))
  have mN6 := mN5.kept hg33 (map_ne mN5 rS5)
  have mI6 := mI5.kept hg33 (map_ne mI5 rS5)
  have hB6 := hB5.grown hg33 (fun e => by have := hlt4 _ e.symm; omega)
  have hz4 : w.heap.size ≤ W2.heap.size := Nat.le_trans hC4.size hw.size
  have hC6 := (hC4.next hw).grown hg33 (fun g e => .inl (.inr (.inr (.inr (.inr (.inl (by rw [← e]; exact (own0 _ _ _).symm)))))))
  have c2 := hp6.cell (i := 2) rfl
  have f2 := hp6.free 2
  obtain ⟨W7, hW7⟩ : ∃ W7, W3.setCell ⟨p, 2, none⟩ (.slice A33 (L.length + 1) c33) = W7 := ⟨_, rfl⟩
  have hp7 : Blk W7 p 126 [.bool true, .slice A21 (L.length + 1) c21, .slice A33 (L.length + 1) c33, .map (some mN), .slice AX X.length cX, .map (some mI), .int .i64 n0, .int .i64 n1, .int .i64 n2, .int .i64 n3, .int .i64 n4] := by rw [← hW7]; exact hp6.set 2 _
  have rT7 := row_setC rT6 hp6 (by decide) 2 (.slice A33 (L.length + 1) c33)
  have rS7 := row_setC hr33 hp6 (by decide) 2 (.slice A33 (L.length + 1) c33)
  have rX7 := row_setC rX6 hp6 (by decide) 2 (.slice A33 (L.length + 1) c33)
  have mN7 := mN6.setCell (a := ⟨p, 2, none⟩) (blk_map mN6 hp6) (.slice A33 (L.length + 1) c33)
  have mI7 := mI6.setCell (a := ⟨p, 2, none⟩) (blk_map mI6 hp6) (.slice A33 (L.length + 1) c33)
  have hB7 := hB6.other (a := ⟨p, 2, none⟩) (show p ≠ w.heap.size by omega) (.slice A33 (L.length + 1) c33)
  have hC7 := hC6.setCell (p := ⟨p, 2, none⟩) (.inl (.inl rfl)) (.slice A33 (L.length + 1) c33)
  rw [hW7] at rT7 rS7 rX7 mN7 mI7 hB7 hC7
  have hb33 : ∀ g, (Value.slice A33 0 c33).ownBlock = some g → foot p ⟨AT, cT, AS, cS, mN, AX, cX, mI, [n0, n1, n2, n3, n4]⟩ g ∨ w.heap.size ≤ g := fun g e => by
    rcases ho33 with h | h
    · exact .inl (.inr (.inr (.inr (.inr (.inl ((own0 _ _ _).symm.trans (h.symm.trans ((own0 _ _ _).trans e))))))))
    · have e2 := (own0 A33 (L.length + 1) c33).trans e
      rw [h] at e2; injection e2 with e2; exact .inr (by omega)
  have HW7 := hid hW7
  clear hp4 rT4 rS4 rX4 mN4 mI4 hB4 hp5 rT5 rS5 rX5 mN5 mI5 hB5 hp6 rT6 rX6 mN6 mI6 hB6 hC6 hC4 hg33 ho33 hr33 hw hW7 hz4 hlt4 Hsz
  go_upto_region 6 with (fail)
  rw [HW7.out]
  clear HW7 c2 f2
  refine region_spec2 6 64 (fun _ => false) [Is (Value.pointer (some ⟨p, 0, none⟩)), Is (Value.pointer (some ⟨p, 0, none⟩)), Is (Value.pointer (some ⟨p, 3, none⟩)), Is (Value.map (some mN)), Is (Value.agg (tc t).toArray), Is (Value.int .i64 (L.length : Nat))] [36, 37, 38, 39, 40, 41] (by kernel_rfl) (by kernel_rfl) (by kernel_rfl) (Nat.le_of_eq rfl) (grows_cons (Is.grows _) (grows_cons (Is.grows _) (grows_cons (Is.grows _) (grows_cons (Is.grows _) (grows_cons (Is.grows _) (grows_cons (Is.grows _) grows_nil))))))
    ⟨(step_ex _ rfl (.inl rfl) rfl (fun a ww hw hf hd => by
   have h0 : a.eval (.tmp 0) = Value.pointer (some ⟨p, 0, none⟩) := ((knows_out 0 (by kernel_rfl) rfl) : Knows _ _ _ _ _ _ 0 _ _) a ww hw hf hd
   revert h0
   generalize a.eval = ev
   intro h0
   unfold execOp
   simp only [h0]
   go_simp)),
     (step_ex _ rfl (.inl rfl) rfl (fun a ww hw hf hd => by
   have h36 : a.eval (.tmp 36) = Value.pointer (some ⟨p, 0, none⟩) := ((knows_in 0 36 (by decide) (by kernel_rfl) rfl rfl) : Knows _ _ _ _ _ _ 1 _ _) a ww hw hf hd
   revert h36
   generalize a.eval = ev
   intro h36
   unfold execOp
   simp only [h36]
   go_simp)),
     (step_ex _ rfl (.inl rfl) rfl (fun a ww hw hf hd => by
   have h37 : a.eval (.tmp 37) = Value.pointer (some ⟨p, 0, none⟩) := ((knows_in 1 37 (by decide) (by kernel_rfl) rfl rfl) : Knows _ _ _ _ _ _ 2 _ _) a ww hw hf hd
   revert h37
   generalize a.eval = ev
   intro h37
   unfold execOp
   simp only [h37]
   go_simp)),
     (step_ex _ rfl (.inl rfl) rfl (fun a ww hw hf hd => by
   have h38 : a.eval (.tmp 38) = Value.pointer (some ⟨p, 3, none⟩) := ((knows_in 2 38 (by decide) (by kernel_rfl) rfl rfl) : Knows _ _ _ _ _ _ 3 _ _) a ww hw hf hd
   have f0 : ww.cell? ⟨p, 3, none⟩ = some (Value.map (some mN)) := (hp7.next hw).cell (i := 3) rfl
   revert h38
   generalize a.eval = ev
   intro h38
   unfold execOp
   simp only [h38]
   go_simp)),
     (step_ldV rfl (.inl rfl) (fun _ hw => (hB7.next hw).rw.range) rfl Tryz.underlying65 rfl (szV infT (tc_len _)) rfl (knows_out 3 (by kernel_rfl) rfl)),
     (step_ex _ rfl (.inl rfl) rfl (fun a ww hw hf hd => by
   have h6 : a.eval (.tmp 6) = Value.int .i64 (L.length : Nat) := ((knows_out 6 (by kernel_rfl) rfl) : Knows _ _ _ _ _ _ 5 _ _) a ww hw hf hd
   revert h6
   generalize a.eval = ev
   intro h6
   unfold execOp
   simp only [h6]
   go_simp)), trivial⟩ ?_
  intro val W8 hw hS _ _
  have e36 : val 36 = Value.pointer (some ⟨p, 0, none⟩) := hS 0 36 (by decide) rfl
  have e37 : val 37 = Value.pointer (some ⟨p, 0, none⟩) := hS 1 37 (by decide) rfl
  have e38 : val 38 = Value.pointer (some ⟨p, 3, none⟩) := hS 2 38 (by decide) rfl
  have e39 : val 39 = Value.map (some mN) := hS 3 39 (by decide) rfl
  have e40 : val 40 = Value.agg (tc t).toArray := hS 4 40 (by decide) rfl
  have e41 : val 41 = Value.int .i64 (L.length : Nat) := hS 5 41 (by decide) rfl
  simp only [putVals, List.foldl_cons, List.foldl_nil, List.drop_succ_cons, List.drop_zero, Act.put, List.setIfInBounds_toArray, List.set_cons_succ, List.set_cons_zero, e36, e37, e38, e39, e40, e41]
  clear e36 e37 e38 e39 e40 e41 hS
  have hp8 := hp7.next hw
  have rT8 := row_next rT7 hw
  have rS8 := row_next rS7 hw
  have rX8 := row_next rX7 hw
  have mN8 := map_next mN7 hw
  have mI8 := map_next mI7 hw
  have hB8 := hB7.next hw
  have hC8 := hC7.next hw
  have hnlt : L.length < maxLen := by unfold maxLen; omega
  have hpe := plainElem_int (H := Unit) Tryz.underlying3 (q := .i64) (a := (L.length : Int)) (WalkArith.wf_i64 (by omega))
  go_upto_region 7 with (at_mapUpdate; refine wpList_mapUpdate_own _ rfl _ _ _ 121 rfl 65 3 lawT Tryz.underlying121 _ mN L.length DN rfl mN8 hnlt _ _ (tk t) rfl rfl (key_of t ht) (i64 L.length) [] hpe ?_; intro W9 mN9 hg9)
  have hnN : ∀ {b t : Nat} {cs : List Value}, Blk W8 b t cs → some b ≠ some mN := fun h e => by injection e with e; exact blk_map mN8 h e.symm
  have hnR : ∀ {e s n : Nat} {v : Value} {xs : List Value}, W8.ownsRow 0 e s v n xs → v.ownBlock = none ∨ v.ownBlock ≠ some mN := fun h => .inr fun e => map_ne mN8 h e.symm
  have hp9 := hp8.grown hg9 (hnN hp8)
  have rT9 := rT8.kept hg9 (hnR rT8)
  have rS9 := rS8.kept hg9 (hnR rS8)
  have rX9 := rX8.kept hg9 (hnR rX8)
  have hB9 := hB8.grown hg9 (hnN hB8)
  have mI9 := mI8.kept hg9 (fun e => hNI (by injection e))
  have hC9 := hC8.grown hg9 (fun g e => .inl (.inr (.inl (by injection e with e; exact e.symm))))
  clear hp7 rT7 rS7 rX7 mN7 mI7 hB7 hC7 hp8 rT8 rS8 rX8 mN8 mI8 hB8 hC8 hg9 hnN hnR hw hpe hnlt
  have hk := HK.out
  have hk1 : (t.1 == 1) = true := by rw [hk]; rfl
  have hk0 : t.1 = 1 := by rw [hk]
  obtain ⟨mi, hmi⟩ : ∃ m, (if (4611686018427387904 : Int) < tb then 4611686018427387904 else tb) = m := ⟨_, rfl⟩
  obtain ⟨mx, hmx⟩ : ∃ m, (if (mi + 1 : Int) > n4 then mi + 1 else n4) = m := ⟨_, rfl⟩
  have hmi0 : 0 ≤ mi ∧ mi ≤ 4611686018427387904 := by rw [← hmi]; split <;> omega
  have hwm : IntKind.i64.wrap (mi + 1) = mi + 1 := IntWalk.i64_in _ ⟨by omega, by omega⟩
  have hbump : [n0, n1, n2, n3, mx] = updN [n0, n1, n2, n3, n4] t := by
    rw [hk]
    simp only [updN, bump, hmi]
    simp [← hmx, List.getD]
  have Hmi := hid hmi
  have Hmx := hid hmx
  have HBU := hid hbump
  clear hmi hmx hmi0 hbump
  subst hk
  clear hk0
  have x0 := hB9.cell (i := 0) rfl
  dsimp only at hk1
  go_upto_region 8 with (fail)
  clear x0 hk1
  refine region_spec2 18 64 (fun _ => false) [Is (Value.pointer (some ⟨p, 0, none⟩)), Is (Value.pointer (some ⟨w.heap.size, 1, none⟩)), Is (Value.int .i64 4), Is (Value.pointer (some ⟨p, 0, none⟩)), Is (Value.pointer (some ⟨w.heap.size, 1, none⟩)), Is (Value.int .i64 4), Is (Value.pointer (some ⟨p, 0, none⟩)), Is (Value.pointer (some ⟨p, 6, none⟩)), Is (Value.pointer (some ⟨p, 10, none⟩)), Is (Value.int .i64 n4), Is (Value.pointer (some ⟨w.heap.size, 2, none⟩)), Is (Value.int .i64 tb), Is (Value.int .i64 mi), Is (Value.int .i64 (mi + 1)), Is (Value.int .i64 mx), Is (Value.pointer (some ⟨p, 0, none⟩)), Is (Value.pointer (some ⟨p, 6, none⟩)), Is (Value.pointer (some ⟨p, 10, none⟩))] [45, 46, 47, 48, 49, 50, 51, 52, 53, 54, 55, 56, 57, 58, 59, 60, 61, 62] (by kernel_rfl) (by kernel_rfl) (by kernel_rfl) (Nat.le_of_eq rfl) (grows_cons (Is.grows _) (grows_cons (Is.grows _) (grows_cons (Is.grows _) (grows_cons (Is.grows _) (grows_cons (Is.grows _) (grows_cons (Is.grows _) (grows_cons (Is.grows _) (grows_cons (Is.grows _) (grows_cons (Is.grows _) (grows_cons (Is.grows _) (grows_cons (Is.grows _) (grows_cons (Is.grows _) (grows_cons (Is.grows _) (grows_cons (Is.grows _) (grows_cons (Is.grows _) (grows_cons (Is.grows _) (grows_cons (Is.grows _) (grows_cons (Is.grows _) grows_nil))))))))))))))))))
    ⟨(step_ex _ rfl (.inl rfl) rfl (fun a ww hw hf hd => by
   have h0 : a.eval (.tmp 0) = Value.pointer (some ⟨p, 0, none⟩) := ((knows_out 0 (by kernel_rfl) rfl) : Knows _ _ _ _ _ _ 0 _ _) a ww hw hf hd
   revert h0
   generalize a.eval = ev
   intro h0
   unfold execOp
   simp only [h0]
   go_simp)),
     (step_ex _ rfl (.inl rfl) rfl (fun a ww hw hf hd => by
   have h3 : a.eval (.tmp 3) = Value.pointer (some ⟨w.heap.size, 0, none⟩) := ((knows_out 3 (by kernel_rfl) rfl) : Knows _ _ _ _ _ _ 1 _ _) a ww hw hf hd
   revert h3
   generalize a.eval = ev
   intro h3
   unfold execOp
   simp only [h3]
   go_simp)),
     (step_ex _ rfl (.inl rfl) rfl (fun a ww hw hf hd => by
   have h46 : a.eval (.tmp 46) = Value.pointer (some ⟨w.heap.size, 1, none⟩) := ((knows_in 1 46 (by decide) (by kernel_rfl) rfl rfl) : Knows _ _ _ _ _ _ 2 _ _) a ww hw hf hd
   have f0 : ww.cell? ⟨w.heap.size, 1, none⟩ = some (Value.int .i64 4) := (hB9.next hw).cell (i := 1) rfl
   revert h46
   generalize a.eval = ev
   intro h46
   unfold execOp
   simp only [h46]
   go_simp)),
     (step_ex _ rfl (.inl rfl) rfl (fun a ww hw hf hd => by
   have h0 : a.eval (.tmp 0) = Value.pointer (some ⟨p, 0, none⟩) := ((knows_out 0 (by kernel_rfl) rfl) : Knows _ _ _ _ _ _ 3 _ _) a ww hw hf hd
   revert h0
   generalize a.eval = ev
   intro h0
   unfold execOp
   simp only [h0]
   go_simp)),
     (step_ex _ rfl (.inl rfl) rfl (fun a ww hw hf hd => by
   have h3 : a.eval (.tmp 3) = Value.pointer (some ⟨w.heap.size, 0, none⟩) := ((knows_out 3 (by kernel_rfl) rfl) : Knows _ _ _ _ _ _ 4 _ _) a ww hw hf hd
   revert h3
   generalize a.eval = ev
   intro h3
   unfold execOp
   simp only [h3]
   go_simp)),
     (step_ex _ rfl (.inl rfl) rfl (fun a ww hw hf hd => by
   have h49 : a.eval (.tmp 49) = Value.pointer (some ⟨w.heap.size, 1, none⟩) := ((knows_in 4 49 (by decide) (by kernel_rfl) rfl rfl) : Knows _ _ _ _ _ _ 5 _ _) a ww hw hf hd
   have f0 : ww.cell? ⟨w.heap.size, 1, none⟩ = some (Value.int .i64 4) := (hB9.next hw).cell (i := 1) rfl
   revert h49
   generalize a.eval = ev
   intro h49
   unfold execOp
   simp only [h49]
   go_simp)),
     (step_ex _ rfl (.inl rfl) rfl (fun a ww hw hf hd => by
   have h48 : a.eval (.tmp 48) = Value.pointer (some ⟨p, 0, none⟩) := ((knows_in 3 48 (by decide) (by kernel_rfl) rfl rfl) : Knows _ _ _ _ _ _ 6 _ _) a ww hw hf hd
   revert h48
   generalize a.eval = ev
   intro h48
   unfold execOp
   simp only [h48]
   go_simp)),
     (step_ex _ rfl (.inl rfl) rfl (fun a ww hw hf hd => by
   have h51 : a.eval (.tmp 51) = Value.pointer (some ⟨p, 0, none⟩) := ((knows_in 6 51 (by decide) (by kernel_rfl) rfl rfl) : Knows _ _ _ _ _ _ 7 _ _) a ww hw hf hd
   revert h51
   generalize a.eval = ev
   intro h51
   unfold execOp
   simp only [h51]
   go_simp)),
     (step_ex _ rfl (.inl rfl) rfl (fun a ww hw hf hd => by
   have h52 : a.eval (.tmp 52) = Value.pointer (some ⟨p, 6, none⟩) := ((knows_in 7 52 (by decide) (by kernel_rfl) rfl rfl) : Knows _ _ _ _ _ _ 8 _ _) a ww hw hf hd
   have h50 : a.eval (.tmp 50) = Value.int .i64 4 := ((knows_in 5 50 (by decide) (by kernel_rfl) rfl rfl) : Knows _ _ _ _ _ _ 8 _ _) a ww hw hf hd
   revert h52 h50
   generalize a.eval = ev
   intro h52 h50
   unfold execOp
   simp only [h52, h50]
   go_simp)),
     (step_ex _ rfl (.inl rfl) rfl (fun a ww hw hf hd => by
   have h53 : a.eval (.tmp 53) = Value.pointer (some ⟨p, 10, none⟩) := ((knows_in 8 53 (by decide) (by kernel_rfl) rfl rfl) : Knows _ _ _ _ _ _ 9 _ _) a ww hw hf hd
   have f0 : ww.cell? ⟨p, 10, none⟩ = some (Value.int .i64 n4) := (hp9.next hw).cell (i := 10) rfl
   revert h53
   generalize a.eval = ev
   intro h53
   unfold execOp
   simp only [h53]
   go_simp)),
     (step_ex _ rfl (.inl rfl) rfl (fun a ww hw hf hd => by
   have h3 : a.eval (.tmp 3) = Value.pointer (some ⟨w.heap.size, 0, none⟩) := ((knows_out 3 (by kernel_rfl) rfl) : Knows _ _ _ _ _ _ 10 _ _) a ww hw hf hd
   revert h3
   generalize a.eval = ev
   intro h3
   unfold execOp
   simp only [h3]
   go_simp)),
     (step_ex _ rfl (.inl rfl) rfl (fun a ww hw hf hd => by
   have h55 : a.eval (.tmp 55) = Value.pointer (some ⟨w.heap.size, 2, none⟩) := ((knows_in 10 55 (by decide) (by kernel_rfl) rfl rfl) : Knows _ _ _ _ _ _ 11 _ _) a ww hw hf hd
   have f0 : ww.cell? ⟨w.heap.size, 2, none⟩ = some (Value.int .i64 tb) := (hB9.next hw).cell (i := 2) rfl
   revert h55
   generalize a.eval = ev
   intro h55
   unfold execOp
   simp only [h55]
   go_simp)),
     (step_min rfl (.inl rfl) rfl rfl Hmi.out (knows_in 11 56 (by decide) (by kernel_rfl) rfl rfl) (knows_const _)),
     (step_ex _ rfl (.inl rfl) rfl (fun a ww hw hf hd => by
   have h57 : a.eval (.tmp 57) = Value.int .i64 mi := ((knows_in 12 57 (by decide) (by kernel_rfl) rfl rfl) : Knows _ _ _ _ _ _ 13 _ _) a ww hw hf hd
   have f0 := hwm
   have hc := ec a
   revert hc h57
   generalize a.eval = ev
   intro hc h57
   unfold execOp
   simp only [hc, h57]
   go_simp)),
     (step_max rfl (.inl rfl) rfl rfl Hmx.out (knows_in 9 54 (by decide) (by kernel_rfl) rfl rfl) (knows_in 13 58 (by decide) (by kernel_rfl) rfl rfl)),
     (step_ex _ rfl (.inl rfl) rfl (fun a ww hw hf hd => by
   have h45 : a.eval (.tmp 45) = Value.pointer (some ⟨p, 0, none⟩) := ((knows_in 0 45 (by decide) (by kernel_rfl) rfl rfl) : Knows _ _ _ _ _ _ 15 _ _) a ww hw hf hd
   revert h45
   generalize a.eval = ev
   intro h45
   unfold execOp
   simp only [h45]
   go_simp)),
     (step_ex _ rfl (.inl rfl) rfl (fun a ww hw hf hd => by
   have h60 : a.eval (.tmp 60) = Value.pointer (some ⟨p, 0, none⟩) := ((knows_in 15 60 (by decide) (by kernel_rfl) rfl rfl) : Knows _ _ _ _ _ _ 16 _ _) a ww hw hf hd
   revert h60
   generalize a.eval = ev
   intro h60
   unfold execOp
   simp only [h60]
   go_simp)),
     (step_ex _ rfl (.inl rfl) rfl (fun a ww hw hf hd => by
   have h61 : a.eval (.tmp 61) = Value.pointer (some ⟨p, 6, none⟩) := ((knows_in 16 61 (by decide) (by kernel_rfl) rfl rfl) : Knows _ _ _ _ _ _ 17 _ _) a ww hw hf hd
   have h47 : a.eval (.tmp 47) = Value.int .i64 4 := ((knows_in 2 47 (by decide) (by kernel_rfl) rfl rfl) : Knows _ _ _ _ _ _ 17 _ _) a ww hw hf hd
   revert h61 h47
   generalize a.eval = ev
   intro h61 h47
   unfold execOp
   simp only [h61, h47]
   go_simp)), trivial⟩ ?_
  intro val W10 hw hS _ _
  have e45 : val 45 = Value.pointer (some ⟨p, 0, none⟩) := hS 0 45 (by decide) rfl
  have e46 : val 46 = Value.pointer (some ⟨w.heap.size, 1, none⟩) := hS 1 46 (by decide) rfl
  have e47 : val 47 = Value.int .i64 4 := hS 2 47 (by decide) rfl
  have e48 : val 48 = Value.pointer (some ⟨p, 0, none⟩) := hS 3 48 (by decide) rfl
  have e49 : val 49 = Value.pointer (some ⟨w.heap.size, 1, none⟩) := hS 4 49 (by decide) rfl
  have e50 : val 50 = Value.int .i64 4 := hS 5 50 (by decide) rfl
  have e51 : val 51 = Value.pointer (some ⟨p, 0, none⟩) := hS 6 51 (by decide) rfl
  have e52 : val 52 = Value.pointer (some ⟨p, 6, none⟩) := hS 7 52 (by decide) rfl
  have e53 : val 53 = Value.pointer (some ⟨p, 10, none⟩) := hS 8 53 (by decide) rfl
  have e54 : val 54 = Value.int .i64 n4 := hS 9 54 (by decide) rfl
  have e55 : val 55 = Value.pointer (some ⟨w.heap.size, 2, none⟩) := hS 10 55 (by decide) rfl
  have e56 : val 56 = Value.int .i64 tb := hS 11 56 (by decide) rfl
  have e57 : val 57 = Value.int .i64 mi := hS 12 57 (by decide) rfl
  have e58 : val 58 = Value.int .i64 (mi + 1) := hS 13 58 (by decide) rfl
  have e59 : val 59 = Value.int .i64 mx := hS 14 59 (by decide) rfl
  have e60 : val 60 = Value.pointer (some ⟨p, 0, none⟩) := hS 15 60 (by decide) rfl
  have e61 : val 61 = Value.pointer (some ⟨p, 6, none⟩) := hS 16 61 (by decide) rfl
  have e62 : val 62 = Value.pointer (some ⟨p, 10, none⟩) := hS 17 62 (by decide) rfl
  simp only [putVals, List.foldl_cons, List.foldl_nil, List.drop_succ_cons, List.drop_zero, Act.put, List.setIfInBounds_toArray, List.set_cons_succ, List.set_cons_zero, e45, e46, e47, e48, e49, e50, e51, e52, e53, e54, e55, e56, e57, e58, e59, e60, e61, e62]
  clear e45 e46 e47 e48 e49 e50 e51 e52 e53 e54 e55 e56 e57 e58 e59 e60 e61 e62 hS
  have hp10 := hp9.next hw
  have c10 := hp10.cell (i := 10) rfl
  have f10 := hp10.free 10
  obtain ⟨W11, hW11⟩ : ∃ W11, W10.setCell ⟨p, 10, none⟩ (.int .i64 mx) = W11 := ⟨_, rfl⟩
  have hp11 : Blk W11 p 126 ((Lay.mk A21 c21 A33 c33 mN AX cX mI [n0, n1, n2, n3, mx]).cells (L.length + 1) X.length) := by rw [← hW11]; exact hp10.set 10 _
  have rT11 := row_setC (row_next rT9 hw) hp10 (by decide) 10 (.int .i64 mx)
  have rS11 := row_setC (row_next rS9 hw) hp10 (by decide) 10 (.int .i64 mx)
  have rX11 := row_setC (row_next rX9 hw) hp10 (by decide) 10 (.int .i64 mx)
  have mN11 := (map_next mN9 hw).setCell (a := ⟨p, 10, none⟩) (blk_map (map_next mN9 hw) hp10) (.int .i64 mx)
  have mI11 := (map_next mI9 hw).setCell (a := ⟨p, 10, none⟩) (blk_map (map_next mI9 hw) hp10) (.int .i64 mx)
  have h11C := (hC9.next hw).setCell (p := ⟨p, 10, none⟩) (.inl (.inl rfl)) (.int .i64 mx)
  rw [hW11] at rT11 rS11 rX11 mN11 mI11 h11C
  have HW11 := hid hW11
  clear hW11 hw hp9 rT9 rS9 rX9 mN9 mI9 hB9 hC9 hp10
  go_upto_region 9 with (fail)
  rw [HW11.out]
  clear HW11 c10 f10
  go_wp2
  go_ret2
  have hlen : (L ++ [(1, 4, tb)]).length = L.length + 1 := by simp
  have hfl : flatZ (L ++ [(1, 4, tb)]) = flatZ L ++ tc (1, 4, tb) := by rw [flat_appZ, flat_one]
  have hzz : ints .i64 (zs ++ [r]) = ints .i64 zs ++ [Value.int .i64 r] := ints_app _ _ _
  refine ⟨rfl, ⟨A21, c21, A33, c33, mN, AX, cX, mI, [n0, n1, n2, n3, mx]⟩, HBU.out, rfl, rfl, ?_, h11C, fun b hb => ?_⟩
  · rw [HR.out]
    refine ⟨by rw [hlen]; exact hp11, by rw [hlen, hfl]; exact rT11, by rw [hlen, hzz]; exact rS11, rX11, by rw [hlen]; exact mN11, mI11⟩
  · rcases hb with h | h | h | h | h | h
    · exact .inl (.inl h)
    · exact .inl (.inr (.inl h))
    · exact .inl (.inr (.inr (.inl h)))
    · exact hb21 b h
    · exact hb33 b h
    · exact .inl (.inr (.inr (.inr (.inr (.inr h)))))
set_option maxRecDepth 50000 in
set_option maxHeartbeats 1000000 in
theorem add_any (p : Nat) (s : Lay) (zs : List Int) (DN DI : D0) (L : List T3) (X : List (List Int)) (t : T3) (x : Nat) (w : World) (hT : TS w p s zs DN DI L X) (ht : Twf t) (hzl : zs.length = L.length) (hzb : ∀ z ∈ zs, 1 ≤ z ∧ z ≤ 1048576) (hL : L.length ≤ 40) (hwf : WFt L.length x t)
    (hnl : s.nx.length = 5) (hnb : ∀ v ∈ s.nx, 0 ≤ v ∧ v ≤ 4611686018427387905) (hNI : s.mI ≠ s.mN) :
    Calls Tryz.prog 101 #[.pointer (some ⟨p, 0, none⟩), tv t] w fun e w' => e = .returned (.tuple #[.int .i64 L.length, .int .i64 0]) ∧ AddR p s zs DN DI L X t w w' := by
  obtain ⟨AT, cT, AS, cS, mN, AX, cX, mI, nx⟩ := s
  match nx, hnl with
  | [n0, n1, n2, n3, n4], _ =>
    by_cases hk : t.1 = 1
    · obtain ⟨k, a, b⟩ := t
      dsimp only at hk
      subst hk
      have hab : 1 ≤ a ∧ a ≤ 4 ∧ 0 ≤ b := by
        rcases hwf with h | ⟨h, _⟩ | ⟨h, _⟩ | ⟨h, _⟩
        · exact h.2
        · rcases h with h | h | h | h | h <;> cases h
        · rcases h with h | h | h <;> cases h
        · cases h
      have : a = 1 ∨ a = 2 ∨ a = 3 ∨ a = 4 := by omega
      rcases this with rfl | rfl | rfl | rfl
      · exact add_atom1 p AT AS AX cT cS mN cX mI n0 n1 n2 n3 n4 zs DN DI L X _ b rfl hab.2.2 (hnb n1 (by simp)).2 (hnb n1 (by simp)).1 hNI w hT ht hzl hzb hL x hwf
      · exact add_atom2 p AT AS AX cT cS mN cX mI n0 n1 n2 n3 n4 zs DN DI L X _ b rfl hab.2.2 (hnb n2 (by simp)).2 (hnb n2 (by simp)).1 hNI w hT ht hzl hzb hL x hwf
      · exact add_atom3 p AT AS AX cT cS mN cX mI n0 n1 n2 n3 n4 zs DN DI L X _ b rfl hab.2.2 (hnb n3 (by simp)).2 (hnb n3 (by simp)).1 hNI w hT ht hzl hzb hL x hwf
      · exact add_atom4 p AT AS AX cT cS mN cX mI n0 n1 n2 n3 n4 zs DN DI L X _ b rfl hab.2.2 (hnb n4 (by simp)).2 (hnb n4 (by simp)).1 hNI w hT ht hzl hzb hL x hwf
    · exact add_other p AT AS AX cT cS mN cX mI n0 n1 n2 n3 n4 zs DN DI L X t hk hNI w hT ht hzl hzb hL x hwf
end Go.Proofs.YtpncohoonfahpaaGreatDoor
