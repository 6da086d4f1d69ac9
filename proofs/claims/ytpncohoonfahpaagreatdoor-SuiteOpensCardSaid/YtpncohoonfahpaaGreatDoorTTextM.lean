/- Text on the code's store. -/
import Derived.Test.YtpncohoonfahpaaGreatDoorTDrawM
namespace Go.Proofs.YtpncohoonfahpaaGreatDoor
open Go Go.RowKit Go.Maps

set_option maxRecDepth 50000 in
theorem cxT105 : ∀ vs w, (callFunc 105 vs).run Tryz.prog w = .ok (.enter 105 vs) w := enters_of Tryz.func105 (by kernel_rfl) rfl
/-- What Text answers. -/
def TextR (L : List T3) (X : List (List Int)) (x : List Int) (n : Int) (L' : List T3) (X' : List (List Int)) : Prop :=
  (∃ j i : Nat, X[j]? = some x ∧ L[i]? = some (9, (j : Int), 0) ∧ n = i ∧ L' = L ∧ X' = X) ∨ ((∀ j : Nat, X[j]? ≠ some x) ∧ n = L.length ∧ L' = L ++ [(9, (X.length : Int), 0)] ∧ X' = X ++ [x])
set_option maxRecDepth 50000 in
theorem conv_any {w : World} {A : Option Addr} {c : Nat} {x : List Int} (hx : TByt x) (hA : Nums w .u8 A x) : (convert 23 9 (.slice A x.length c)).run Tryz.prog w = .ok (.string (bstr x)) w := by
  by_cases h0 : x.length = 0
  · have e := List.eq_nil_of_length_eq_zero h0
    subst e
    cases A with
    | none =>
      rw [List.length_nil, run_convert_bytes_string w 23 9 5 none 0 c Tryz.underlying23 Tryz.underlying5 Tryz.underlying9]
      simp [Conv.bytesToString, bstr]
      rfl
    | some a => exact run_convert_bytes_back w 23 9 5 a c [] Tryz.underlying23 Tryz.underlying5 Tryz.underlying9 (fun j hj => by simp at hj)
  · obtain ⟨b, off, rfl, hb, hc⟩ := hA (by omega)
    have h := run_convert_bytes_back w 23 9 5 ⟨b, off, none⟩ c (x.map fun n => UInt8.ofNat n.toNat) Tryz.underlying23 Tryz.underlying5 Tryz.underlying9 (fun j hj => by
      have hjx : j < x.length := by simpa using hj
      rw [Addr.add_mid, hc j hjx]
      have hbb := hx x[j] (List.getElem_mem hjx)
      simp only [List.getElem_map, List.getD_eq_getElem?_getD, List.getElem?_eq_getElem hjx, Option.getD_some, UInt8.toNat_ofNat']
      congr 2
      omega)
    rw [List.length_map] at h
    exact h
set_option maxRecDepth 50000 in
theorem lookx_ok {w : World} {m n : Nat} {DI : D0} {x : List Int} {c : Int} (h : w.ownsMap Tryz.prog 9 (plainElem Tryz.prog 3) m n DI) (hx : x.length ≤ 100) (hc : DI.atKey (tkx x) (i64 0) = i64 c) :
    (Instr.lookup 123 (.map (some m)) (.string (bstr x)) true).run Tryz.prog w = .ok (.tuple #[.int .i64 c, .bool (has DI (tkx x))]) w := by
  obtain ⟨v, ps, hrun, hv⟩ := h.look_ok lawX Tryz.underlying123 (z := .int .i64 0) (by kernel_rfl) (plainElem_int Tryz.underlying3 (by decide)) (WideMaps.keyOf_string_mk Tryz.underlying9 (s := bstr x) (by rw [bstr_size]; unfold maxLen; omega))
  obtain ⟨q, rfl, hq, _⟩ := plainElem_int_inv Tryz.underlying3 hv
  have hc2 : DI.atKey (Lit.string (bstr x).data.toList) (DataW.lit (Lit.int IntKind.i64 0)) = i64 c := hc
  rw [hc2] at hq
  injection hq with hq
  injection hq with hq
  injection hq with _ hq
  rw [hq]
  exact hrun
set_option maxRecDepth 50000 in
theorem nums_chg {w w' : World} {k : IntKind} {A : Option Addr} {xs : List Int} {G : Nat → Prop} (h : Nums w k A xs) (hc : Chg G w w') (hA : ∀ g o sp, A = some ⟨g, o, sp⟩ → ¬ G g) : Nums w' k A xs := fun hp => by
  obtain ⟨g, off, e, hlt, hx⟩ := h hp
  refine ⟨g, off, e, Nat.lt_of_lt_of_le hlt hc.size, fun i hi => ?_⟩
  rw [World.cell?_of_block (a := ⟨g, off + i, none⟩) (hc.block g hlt (hA g off none e))]
  exact hx i hi
set_option maxRecDepth 50000 in
theorem wpList_app1 {P : Program} {ops : Array Oper} {rest : List Oper} {o : Oper} {a : Act} {w : World} {Q : Exit → Act → World → Prop} (hgd : o.guard = none) (s x : Operand) (t e : TypeId) {z : Value} {size bytes : Nat}
    (ho : o.op = .call { callee := .builtin .append, args := #[s, x], argTypes := #[t, t] }) (ht : P.underlying t = some (.slice e)) (hI : (P.info? e).map (fun i => (i.zero, i.size, i.bytes)) = some (some z, size, bytes)) (hzs : z.cells.size = size) (hsz : 0 < size) (hb0 : bytes ≤ 1000)
    {v : Value} {n : Nat} {xs news : List Value} (hown : w.ownsRow 0 e size v n xs) (hs : a.eval s = v) (b : Nat) (hx : a.eval x = .slice (some ⟨b, 0, none⟩) 1 1) (hR : Rw w b 0 news) (hl : news.length = size) (h1 : ∀ u ∈ news, u.oneCell' = true) (hn : n ≤ 1000)
    (h : ∀ u w', AppR e size v n xs news w u w' → wpList P ops Q rest (a.put o.dst u) w') : wpList P ops Q (o :: rest) a w := by
  obtain ⟨u, w', hrun, hR2⟩ := run_app1 (P := P) t o.type e ht hI hzs hsz hb0 hown hR hl h1 hn
  refine wpList_plain hgd fun _ hK => ?_
  unfold Oper.wp execOp
  simp only [ho, resolve, invoke, builtin, Sem.run_bind, Sem.run_pure, Result.andThen_ok, List.map_toArray, List.map_cons, List.map_nil, hs, hx, hrun]
  exact hK _ _ (h u w' hR2)
set_option maxRecDepth 50000 in
set_option maxHeartbeats 4000000 in
theorem text_old (F : Nat → Prop) (p : Nat) (L : List T3) (X : List (List Int)) (A : Option Addr) (c : Nat) (x : List Int) (w : World) (h : CS F w p L X) (hx : TByt x) (hx2 : x.length ≤ 100) (hA : Nums w .u8 A x) (hAF : 0 < x.length → ∀ g o sp, A = some ⟨g, o, sp⟩ → ¬ F g) (hL : L.length ≤ 39) (hX : X.length ≤ 39) (j : Nat) (hj : X[j]? = some x) :
    Calls Tryz.prog 53 #[.pointer (some ⟨p, 0, none⟩), .slice A x.length c] w fun e w' => ∃ n L' X', e = .returned (.tuple #[.int .i64 n, .int .i64 0]) ∧ TextR L X x n L' X' ∧ CS (Grw F w w') w' p L' X' ∧ Chg F w w' := by
  obtain ⟨s, DN, DI, hT, hP, hF, hN⟩ := h
  have c0 : w.cell? ⟨p, 0, none⟩ = some (.bool true) := hT.blk.cell (i := 0) rfl
  have hgt : decide ((1048576 : Int) < x.length) = false := decide_eq_false (by omega)
  have hcv : ∀ ww, Cl w ww → (convert 23 9 (.slice A x.length c)).run Tryz.prog ww = .ok (.string (bstr x)) ww := fun ww hw => conv_any hx (hA.below hw)
  have hcx : DI.atKey (tkx x) (i64 0) = i64 j := (hP.ih j x hj).2
  have hhx : has DI (tkx x) = true := (hP.ih j x hj).1
  have hlk : ∀ ww, Cl w ww → (Instr.lookup 123 (.map (some s.mI)) (.string (bstr x)) true).run Tryz.prog ww = .ok (.tuple #[.int .i64 j, .bool true]) ww := fun ww hw => by
    have := lookx_ok (map_next hT.mI hw) hx2 hcx
    rw [hhx] at this
    exact this
  clear hcx hhx
  go_enter Tryz.func53, Tryz.ntmps53
  go_upto_region 5 with (go_at_call 99; refine (exists_any p _ c0).mono ?_; rintro e w2 ⟨rfl, rfl⟩)
  clear c0 hgt
  refine region_spec2 11 70 (fun _ => false) [Is (Value.pointer (some ⟨p, 0, none⟩)), Is (Value.pointer (some ⟨p, 0, none⟩)), Is (Value.pointer (some ⟨p, 5, none⟩)), Is (Value.map (some s.mI)), Is (Value.slice A x.length c), Is (Value.string (bstr x)), Is (Value.tuple #[Value.int .i64 j, Value.bool true]), Is (Value.tuple #[Value.int .i64 j, Value.bool true]), Is (Value.int .i64 j), Is (Value.bool true), Is (Value.int .i64 j)] [19, 20, 21, 22, 23, 24, 25, 18, 26, 27, 6] (by kernel_rfl) (by kernel_rfl) (by kernel_rfl) (Nat.le_of_eq rfl) (grows_cons (Is.grows _) (grows_cons (Is.grows _) (grows_cons (Is.grows _) (grows_cons (Is.grows _) (grows_cons (Is.grows _) (grows_cons (Is.grows _) (grows_cons (Is.grows _) (grows_cons (Is.grows _) (grows_cons (Is.grows _) (grows_cons (Is.grows _) (grows_cons (Is.grows _) grows_nil)))))))))))
    ⟨(step_ex (Value.pointer (some ⟨p, 0, none⟩)) rfl (.inl rfl) rfl (fun a ww hw hf hd => by
           have h0 : a.eval (.tmp 0) = Value.pointer (some ⟨p, 0, none⟩) := ((knows_out 0 (by kernel_rfl) rfl) : Knows _ _ _ _ _ _ 0 _ _) a ww hw hf hd
           have hcc : ∀ c, a.eval (.const c) = c := fun _ => rfl
           revert hcc h0
           generalize a.eval = ev
           intro hcc h0
           unfold execOp
           simp only [h0, hcc]
           go_simp)),
     (step_ex (Value.pointer (some ⟨p, 0, none⟩)) rfl (.inl rfl) rfl (fun a ww hw hf hd => by
           have h19 : a.eval (.tmp 19) = Value.pointer (some ⟨p, 0, none⟩) := ((knows_in 0 19 (by decide) (by kernel_rfl) rfl rfl) : Knows _ _ _ _ _ _ 1 _ _) a ww hw hf hd
           have hcc : ∀ c, a.eval (.const c) = c := fun _ => rfl
           revert hcc h19
           generalize a.eval = ev
           intro hcc h19
           unfold execOp
           simp only [h19, hcc]
           go_simp)),
     (step_ex (Value.pointer (some ⟨p, 5, none⟩)) rfl (.inl rfl) rfl (fun a ww hw hf hd => by
           have h20 : a.eval (.tmp 20) = Value.pointer (some ⟨p, 0, none⟩) := ((knows_in 1 20 (by decide) (by kernel_rfl) rfl rfl) : Knows _ _ _ _ _ _ 2 _ _) a ww hw hf hd
           have hcc : ∀ c, a.eval (.const c) = c := fun _ => rfl
           revert hcc h20
           generalize a.eval = ev
           intro hcc h20
           unfold execOp
           simp only [h20, hcc]
           go_simp)),
     (step_ex (Value.map (some s.mI)) rfl (.inl rfl) rfl (fun a ww hw hf hd => by
           have h21 : a.eval (.tmp 21) = Value.pointer (some ⟨p, 5, none⟩) := ((knows_in 2 21 (by decide) (by kernel_rfl) rfl rfl) : Knows _ _ _ _ _ _ 3 _ _) a ww hw hf hd
           have f0 : ww.cell? ⟨p, 5, none⟩ = some (Value.map (some s.mI)) := (hT.blk.next hw).cell (i := 5) rfl
           have hcc : ∀ c, a.eval (.const c) = c := fun _ => rfl
           revert hcc h21
           generalize a.eval = ev
           intro hcc h21
           unfold execOp
           simp only [h21, hcc]
           go_simp)),
     (step_ex (Value.slice A x.length c) rfl (.inl rfl) rfl (fun a ww hw hf hd => by
           have h1 : a.eval (.tmp 1) = Value.slice A x.length c := ((knows_out 1 (by kernel_rfl) rfl) : Knows _ _ _ _ _ _ 4 _ _) a ww hw hf hd
           have hcc : ∀ c, a.eval (.const c) = c := fun _ => rfl
           revert hcc h1
           generalize a.eval = ev
           intro hcc h1
           unfold execOp
           simp only [h1, hcc]
           go_simp)),
     (step_ex (Value.string (bstr x)) rfl (.inl rfl) rfl (fun a ww hw hf hd => by
           have h23 : a.eval (.tmp 23) = Value.slice A x.length c := ((knows_in 4 23 (by decide) (by kernel_rfl) rfl rfl) : Knows _ _ _ _ _ _ 5 _ _) a ww hw hf hd
           have f0 := hcv ww hw
           have hcc : ∀ c, a.eval (.const c) = c := fun _ => rfl
           revert hcc h23
           generalize a.eval = ev
           intro hcc h23
           unfold execOp
           simp only [h23, hcc]
           go_simp)),
     (step_ex (Value.tuple #[Value.int .i64 j, Value.bool true]) rfl (.inl rfl) rfl (fun a ww hw hf hd => by
           have h22 : a.eval (.tmp 22) = Value.map (some s.mI) := ((knows_in 3 22 (by decide) (by kernel_rfl) rfl rfl) : Knows _ _ _ _ _ _ 6 _ _) a ww hw hf hd
           have h24 : a.eval (.tmp 24) = Value.string (bstr x) := ((knows_in 5 24 (by decide) (by kernel_rfl) rfl rfl) : Knows _ _ _ _ _ _ 6 _ _) a ww hw hf hd
           have f0 := hlk ww hw
           have hcc : ∀ c, a.eval (.const c) = c := fun _ => rfl
           revert hcc h22 h24
           generalize a.eval = ev
           intro hcc h22 h24
           unfold execOp
           simp only [h22, h24, hcc]
           go_simp)),
     (step_ex (Value.tuple #[Value.int .i64 j, Value.bool true]) rfl (.inl rfl) rfl (fun a ww hw hf hd => by
           have h25 : a.eval (.tmp 25) = Value.tuple #[Value.int .i64 j, Value.bool true] := ((knows_in 6 25 (by decide) (by kernel_rfl) rfl rfl) : Knows _ _ _ _ _ _ 7 _ _) a ww hw hf hd
           have hcc : ∀ c, a.eval (.const c) = c := fun _ => rfl
           revert hcc h25
           generalize a.eval = ev
           intro hcc h25
           unfold execOp
           simp only [h25, hcc]
           go_simp)),
     (step_ex (Value.int .i64 j) rfl (.inl rfl) rfl (fun a ww hw hf hd => by
           have h18 : a.eval (.tmp 18) = Value.tuple #[Value.int .i64 j, Value.bool true] := ((knows_in 7 18 (by decide) (by kernel_rfl) rfl rfl) : Knows _ _ _ _ _ _ 8 _ _) a ww hw hf hd
           have hcc : ∀ c, a.eval (.const c) = c := fun _ => rfl
           revert hcc h18
           generalize a.eval = ev
           intro hcc h18
           unfold execOp
           simp only [h18, hcc]
           go_simp)),
     (step_ex (Value.bool true) rfl (.inl rfl) rfl (fun a ww hw hf hd => by
           have h18 : a.eval (.tmp 18) = Value.tuple #[Value.int .i64 j, Value.bool true] := ((knows_in 7 18 (by decide) (by kernel_rfl) rfl rfl) : Knows _ _ _ _ _ _ 9 _ _) a ww hw hf hd
           have hcc : ∀ c, a.eval (.const c) = c := fun _ => rfl
           revert hcc h18
           generalize a.eval = ev
           intro hcc h18
           unfold execOp
           simp only [h18, hcc]
           go_simp)),
     (step_ex (Value.int .i64 j) rfl (.inl rfl) rfl (fun a ww hw hf hd => by
           have h26 : a.eval (.tmp 26) = Value.int .i64 j := ((knows_in 8 26 (by decide) (by kernel_rfl) rfl rfl) : Knows _ _ _ _ _ _ 10 _ _) a ww hw hf hd
           have hcc : ∀ c, a.eval (.const c) = c := fun _ => rfl
           revert hcc h26
           generalize a.eval = ev
           intro hcc h26
           unfold execOp
           simp only [h26, hcc]
           go_simp)), trivial⟩ ?_
  intro val W3 hw hS _ _
  have e19 : val 19 = Value.pointer (some ⟨p, 0, none⟩) := hS 0 19 (by decide) rfl
  have e20 : val 20 = Value.pointer (some ⟨p, 0, none⟩) := hS 1 20 (by decide) rfl
  have e21 : val 21 = Value.pointer (some ⟨p, 5, none⟩) := hS 2 21 (by decide) rfl
  have e22 : val 22 = Value.map (some s.mI) := hS 3 22 (by decide) rfl
  have e23 : val 23 = Value.slice A x.length c := hS 4 23 (by decide) rfl
  have e24 : val 24 = Value.string (bstr x) := hS 5 24 (by decide) rfl
  have e25 : val 25 = Value.tuple #[Value.int .i64 j, Value.bool true] := hS 6 25 (by decide) rfl
  have e18 : val 18 = Value.tuple #[Value.int .i64 j, Value.bool true] := hS 7 18 (by decide) rfl
  have e26 : val 26 = Value.int .i64 j := hS 8 26 (by decide) rfl
  have e27 : val 27 = Value.bool true := hS 9 27 (by decide) rfl
  have e6 : val 6 = Value.int .i64 j := hS 10 6 (by decide) rfl
  simp only [putVals, List.foldl_cons, List.foldl_nil, List.drop_succ_cons, List.drop_zero, Act.put, List.setIfInBounds_toArray, List.set_cons_succ, List.set_cons_zero, e19, e20, e21, e22, e23, e24, e25, e18, e26, e27, e6]
  clear e19 e20 e21 e22 e23 e24 e25 e18 e26 e27 e6 hS
  have hT3 := hT.next hw
  have hw3 : Below w.heap.size w W3 := hw
  obtain ⟨i, hi⟩ := hP.tx j (get_lt hj)
  have hlk2 : ∀ ww, Cl W3 ww → (Instr.lookup 121 (.map (some s.mN)) (tv (9, (j : Int), 0)) false).run Tryz.prog ww = .ok (.int .i64 i) ww := fun ww hw => look_plain (map_next hT3.mN hw) (hP.wf i _ hi).1 (hP.dh i _ hi).2
  clear hlk hcv hw
  go_upto_region 7 with (fail)
  refine region_spec2 8 70 (fun _ => false) [Is (Value.pointer (some ⟨p, 0, none⟩)), Is (Value.pointer (some ⟨p, 0, none⟩)), Is (Value.pointer (some ⟨p, 3, none⟩)), Is (Value.map (some s.mN)), Is (Value.int .i64 j), Is (tv (9, (j : Int), 0)), Is (Value.int .i64 i), Is (Value.int .i64 i)] [29, 30, 31, 32, 33, 34, 35, 4] (by kernel_rfl) (by kernel_rfl) (by kernel_rfl) (Nat.le_of_eq rfl) (grows_cons (Is.grows _) (grows_cons (Is.grows _) (grows_cons (Is.grows _) (grows_cons (Is.grows _) (grows_cons (Is.grows _) (grows_cons (Is.grows _) (grows_cons (Is.grows _) (grows_cons (Is.grows _) grows_nil))))))))
    ⟨(step_ex (Value.pointer (some ⟨p, 0, none⟩)) rfl (.inl rfl) rfl (fun a ww hw hf hd => by
           have h0 : a.eval (.tmp 0) = Value.pointer (some ⟨p, 0, none⟩) := ((knows_out 0 (by kernel_rfl) rfl) : Knows _ _ _ _ _ _ 0 _ _) a ww hw hf hd
           have hcc : ∀ c, a.eval (.const c) = c := fun _ => rfl
           revert hcc h0
           generalize a.eval = ev
           intro hcc h0
           unfold execOp
           simp only [h0, hcc]
           go_simp)),
     (step_ex (Value.pointer (some ⟨p, 0, none⟩)) rfl (.inl rfl) rfl (fun a ww hw hf hd => by
           have h29 : a.eval (.tmp 29) = Value.pointer (some ⟨p, 0, none⟩) := ((knows_in 0 29 (by decide) (by kernel_rfl) rfl rfl) : Knows _ _ _ _ _ _ 1 _ _) a ww hw hf hd
           have hcc : ∀ c, a.eval (.const c) = c := fun _ => rfl
           revert hcc h29
           generalize a.eval = ev
           intro hcc h29
           unfold execOp
           simp only [h29, hcc]
           go_simp)),
     (step_ex (Value.pointer (some ⟨p, 3, none⟩)) rfl (.inl rfl) rfl (fun a ww hw hf hd => by
           have h30 : a.eval (.tmp 30) = Value.pointer (some ⟨p, 0, none⟩) := ((knows_in 1 30 (by decide) (by kernel_rfl) rfl rfl) : Knows _ _ _ _ _ _ 2 _ _) a ww hw hf hd
           have hcc : ∀ c, a.eval (.const c) = c := fun _ => rfl
           revert hcc h30
           generalize a.eval = ev
           intro hcc h30
           unfold execOp
           simp only [h30, hcc]
           go_simp)),
     (step_ex (Value.map (some s.mN)) rfl (.inl rfl) rfl (fun a ww hw hf hd => by
           have h31 : a.eval (.tmp 31) = Value.pointer (some ⟨p, 3, none⟩) := ((knows_in 2 31 (by decide) (by kernel_rfl) rfl rfl) : Knows _ _ _ _ _ _ 3 _ _) a ww hw hf hd
           have f0 : ww.cell? ⟨p, 3, none⟩ = some (Value.map (some s.mN)) := (hT3.blk.next hw).cell (i := 3) rfl
           have hcc : ∀ c, a.eval (.const c) = c := fun _ => rfl
           revert hcc h31
           generalize a.eval = ev
           intro hcc h31
           unfold execOp
           simp only [h31, hcc]
           go_simp)),
     (step_ex (Value.int .i64 j) rfl (.inl rfl) rfl (fun a ww hw hf hd => by
           have h6 : a.eval (.tmp 6) = Value.int .i64 j := ((knows_out 6 (by kernel_rfl) rfl) : Knows _ _ _ _ _ _ 4 _ _) a ww hw hf hd
           have hcc : ∀ c, a.eval (.const c) = c := fun _ => rfl
           revert hcc h6
           generalize a.eval = ev
           intro hcc h6
           unfold execOp
           simp only [h6, hcc]
           go_simp)),
     (step_cw rfl (.inl rfl) rfl cxT105 rfl (fun aa ww hw hf hd => ⟨_, (one_arg (knows_in 4 33 (by decide) (by kernel_rfl) rfl rfl)) aa ww hw hf hd, textAt_any _ _⟩)),
     (step_ex (Value.int .i64 i) rfl (.inl rfl) rfl (fun a ww hw hf hd => by
           have h32 : a.eval (.tmp 32) = Value.map (some s.mN) := ((knows_in 3 32 (by decide) (by kernel_rfl) rfl rfl) : Knows _ _ _ _ _ _ 6 _ _) a ww hw hf hd
           have h34 : a.eval (.tmp 34) = tv (9, (j : Int), 0) := ((knows_in 5 34 (by decide) (by kernel_rfl) rfl rfl) : Knows _ _ _ _ _ _ 6 _ _) a ww hw hf hd
           have f0 := hlk2 ww hw
           have hcc : ∀ c, a.eval (.const c) = c := fun _ => rfl
           revert hcc h32 h34
           generalize a.eval = ev
           intro hcc h32 h34
           unfold execOp
           simp only [h32, h34, hcc]
           go_simp)),
     (step_ex (Value.int .i64 i) rfl (.inl rfl) rfl (fun a ww hw hf hd => by
           have h35 : a.eval (.tmp 35) = Value.int .i64 i := ((knows_in 6 35 (by decide) (by kernel_rfl) rfl rfl) : Knows _ _ _ _ _ _ 7 _ _) a ww hw hf hd
           have hcc : ∀ c, a.eval (.const c) = c := fun _ => rfl
           revert hcc h35
           generalize a.eval = ev
           intro hcc h35
           unfold execOp
           simp only [h35, hcc]
           go_simp)), trivial⟩ ?_
  intro val W4 hw hS _ _
  have e29 : val 29 = Value.pointer (some ⟨p, 0, none⟩) := hS 0 29 (by decide) rfl
  have e30 : val 30 = Value.pointer (some ⟨p, 0, none⟩) := hS 1 30 (by decide) rfl
  have e31 : val 31 = Value.pointer (some ⟨p, 3, none⟩) := hS 2 31 (by decide) rfl
  have e32 : val 32 = Value.map (some s.mN) := hS 3 32 (by decide) rfl
  have e33 : val 33 = Value.int .i64 j := hS 4 33 (by decide) rfl
  have e34 : val 34 = tv (9, (j : Int), 0) := hS 5 34 (by decide) rfl
  have e35 : val 35 = Value.int .i64 i := hS 6 35 (by decide) rfl
  have e4 : val 4 = Value.int .i64 i := hS 7 4 (by decide) rfl
  simp only [putVals, List.foldl_cons, List.foldl_nil, List.drop_succ_cons, List.drop_zero, Act.put, List.setIfInBounds_toArray, List.set_cons_succ, List.set_cons_zero, e29, e30, e31, e32, e33, e34, e35, e4]
  clear e29 e30 e31 e32 e33 e34 e35 e4 hS
  have hB : Below w.heap.size w W4 := hw3.trans (Below.mono hw hw3.size)
  have hT4 := hT3.next hw
  clear hT3 hlk2 hT
  go_wp2
  go_ret2
  exact ⟨i, L, X, rfl, .inl ⟨j, i, hj, hi, rfl, rfl, rfl⟩, ⟨s, DN, DI, hT4, hP, fun b hb => .inl (hF b hb), hN⟩, Chg.of hB F⟩
set_option maxRecDepth 50000 in
set_option maxHeartbeats 4000000 in
theorem text_new (F : Nat → Prop) (p : Nat) (L : List T3) (X : List (List Int)) (A : Option Addr) (c : Nat) (x : List Int) (w : World) (h : CS F w p L X) (hx : TByt x) (hx2 : x.length ≤ 100) (hA : Nums w .u8 A x) (hAF : 0 < x.length → ∀ g o sp, A = some ⟨g, o, sp⟩ → ¬ F g) (hL : L.length ≤ 39) (hX : X.length ≤ 39) (hj : ∀ j : Nat, X[j]? ≠ some x) :
    Calls Tryz.prog 53 #[.pointer (some ⟨p, 0, none⟩), .slice A x.length c] w fun e w' => ∃ n L' X', e = .returned (.tuple #[.int .i64 n, .int .i64 0]) ∧ TextR L X x n L' X' ∧ CS (Grw F w w') w' p L' X' ∧ Chg F w w' := by
  obtain ⟨s, DN, DI, hT, hP, hF, hN⟩ := h
  have hni : PF s.nx DN DI L X → has DI (tkx x) = false := fun hP => by
    cases hq : has DI (tkx x) with
    | false => rfl
    | true => obtain ⟨j, h1⟩ := hP.id x hx hq; exact absurd h1 (hj j)
  have c0 : w.cell? ⟨p, 0, none⟩ = some (.bool true) := hT.blk.cell (i := 0) rfl
  have hgt : decide ((1048576 : Int) < x.length) = false := decide_eq_false (by omega)
  have hcv : ∀ ww, Cl w ww → (convert 23 9 (.slice A x.length c)).run Tryz.prog ww = .ok (.string (bstr x)) ww := fun ww hw => conv_any hx (hA.below hw)
  have hcx : DI.atKey (tkx x) (i64 0) = i64 0 := atKey_of_not_has (hni hP) _
  have hhx : has DI (tkx x) = false := hni hP
  have hlk : ∀ ww, Cl w ww → (Instr.lookup 123 (.map (some s.mI)) (.string (bstr x)) true).run Tryz.prog ww = .ok (.tuple #[.int .i64 0, .bool false]) ww := fun ww hw => by
    have := lookx_ok (map_next hT.mI hw) hx2 hcx
    rw [hhx] at this
    exact this
  clear hcx hhx
  go_enter Tryz.func53, Tryz.ntmps53
  go_upto_region 5 with (go_at_call 99; refine (exists_any p _ c0).mono ?_; rintro e w2 ⟨rfl, rfl⟩)
  clear c0 hgt
  refine region_spec2 11 70 (fun _ => false) [Is (Value.pointer (some ⟨p, 0, none⟩)), Is (Value.pointer (some ⟨p, 0, none⟩)), Is (Value.pointer (some ⟨p, 5, none⟩)), Is (Value.map (some s.mI)), Is (Value.slice A x.length c), Is (Value.string (bstr x)), Is (Value.tuple #[Value.int .i64 0, Value.bool false]), Is (Value.tuple #[Value.int .i64 0, Value.bool false]), Is (Value.int .i64 0), Is (Value.bool false), Is (Value.int .i64 0)] [19, 20, 21, 22, 23, 24, 25, 18, 26, 27, 6] (by kernel_rfl) (by kernel_rfl) (by kernel_rfl) (Nat.le_of_eq rfl) (grows_cons (Is.grows _) (grows_cons (Is.grows _) (grows_cons (Is.grows _) (grows_cons (Is.grows _) (grows_cons (Is.grows _) (grows_cons (Is.grows _) (grows_cons (Is.grows _) (grows_cons (Is.grows _) (grows_cons (Is.grows _) (grows_cons (Is.grows _) (grows_cons (Is.grows _) grows_nil)))))))))))
    ⟨(step_ex (Value.pointer (some ⟨p, 0, none⟩)) rfl (.inl rfl) rfl (fun a ww hw hf hd => by
           have h0 : a.eval (.tmp 0) = Value.pointer (some ⟨p, 0, none⟩) := ((knows_out 0 (by kernel_rfl) rfl) : Knows _ _ _ _ _ _ 0 _ _) a ww hw hf hd
           have hcc : ∀ c, a.eval (.const c) = c := fun _ => rfl
           revert hcc h0
           generalize a.eval = ev
           intro hcc h0
           unfold execOp
           simp only [h0, hcc]
           go_simp)),
     (step_ex (Value.pointer (some ⟨p, 0, none⟩)) rfl (.inl rfl) rfl (fun a ww hw hf hd => by
           have h19 : a.eval (.tmp 19) = Value.pointer (some ⟨p, 0, none⟩) := ((knows_in 0 19 (by decide) (by kernel_rfl) rfl rfl) : Knows _ _ _ _ _ _ 1 _ _) a ww hw hf hd
           have hcc : ∀ c, a.eval (.const c) = c := fun _ => rfl
           revert hcc h19
           generalize a.eval = ev
           intro hcc h19
           unfold execOp
           simp only [h19, hcc]
           go_simp)),
     (step_ex (Value.pointer (some ⟨p, 5, none⟩)) rfl (.inl rfl) rfl (fun a ww hw hf hd => by
           have h20 : a.eval (.tmp 20) = Value.pointer (some ⟨p, 0, none⟩) := ((knows_in 1 20 (by decide) (by kernel_rfl) rfl rfl) : Knows _ _ _ _ _ _ 2 _ _) a ww hw hf hd
           have hcc : ∀ c, a.eval (.const c) = c := fun _ => rfl
           revert hcc h20
           generalize a.eval = ev
           intro hcc h20
           unfold execOp
           simp only [h20, hcc]
           go_simp)),
     (step_ex (Value.map (some s.mI)) rfl (.inl rfl) rfl (fun a ww hw hf hd => by
           have h21 : a.eval (.tmp 21) = Value.pointer (some ⟨p, 5, none⟩) := ((knows_in 2 21 (by decide) (by kernel_rfl) rfl rfl) : Knows _ _ _ _ _ _ 3 _ _) a ww hw hf hd
           have f0 : ww.cell? ⟨p, 5, none⟩ = some (Value.map (some s.mI)) := (hT.blk.next hw).cell (i := 5) rfl
           have hcc : ∀ c, a.eval (.const c) = c := fun _ => rfl
           revert hcc h21
           generalize a.eval = ev
           intro hcc h21
           unfold execOp
           simp only [h21, hcc]
           go_simp)),
     (step_ex (Value.slice A x.length c) rfl (.inl rfl) rfl (fun a ww hw hf hd => by
           have h1 : a.eval (.tmp 1) = Value.slice A x.length c := ((knows_out 1 (by kernel_rfl) rfl) : Knows _ _ _ _ _ _ 4 _ _) a ww hw hf hd
           have hcc : ∀ c, a.eval (.const c) = c := fun _ => rfl
           revert hcc h1
           generalize a.eval = ev
           intro hcc h1
           unfold execOp
           simp only [h1, hcc]
           go_simp)),
     (step_ex (Value.string (bstr x)) rfl (.inl rfl) rfl (fun a ww hw hf hd => by
           have h23 : a.eval (.tmp 23) = Value.slice A x.length c := ((knows_in 4 23 (by decide) (by kernel_rfl) rfl rfl) : Knows _ _ _ _ _ _ 5 _ _) a ww hw hf hd
           have f0 := hcv ww hw
           have hcc : ∀ c, a.eval (.const c) = c := fun _ => rfl
           revert hcc h23
           generalize a.eval = ev
           intro hcc h23
           unfold execOp
           simp only [h23, hcc]
           go_simp)),
     (step_ex (Value.tuple #[Value.int .i64 0, Value.bool false]) rfl (.inl rfl) rfl (fun a ww hw hf hd => by
           have h22 : a.eval (.tmp 22) = Value.map (some s.mI) := ((knows_in 3 22 (by decide) (by kernel_rfl) rfl rfl) : Knows _ _ _ _ _ _ 6 _ _) a ww hw hf hd
           have h24 : a.eval (.tmp 24) = Value.string (bstr x) := ((knows_in 5 24 (by decide) (by kernel_rfl) rfl rfl) : Knows _ _ _ _ _ _ 6 _ _) a ww hw hf hd
           have f0 := hlk ww hw
           have hcc : ∀ c, a.eval (.const c) = c := fun _ => rfl
           revert hcc h22 h24
           generalize a.eval = ev
           intro hcc h22 h24
           unfold execOp
           simp only [h22, h24, hcc]
           go_simp)),
     (step_ex (Value.tuple #[Value.int .i64 0, Value.bool false]) rfl (.inl rfl) rfl (fun a ww hw hf hd => by
           have h25 : a.eval (.tmp 25) = Value.tuple #[Value.int .i64 0, Value.bool false] := ((knows_in 6 25 (by decide) (by kernel_rfl) rfl rfl) : Knows _ _ _ _ _ _ 7 _ _) a ww hw hf hd
           have hcc : ∀ c, a.eval (.const c) = c := fun _ => rfl
           revert hcc h25
           generalize a.eval = ev
           intro hcc h25
           unfold execOp
           simp only [h25, hcc]
           go_simp)),
     (step_ex (Value.int .i64 0) rfl (.inl rfl) rfl (fun a ww hw hf hd => by
           have h18 : a.eval (.tmp 18) = Value.tuple #[Value.int .i64 0, Value.bool false] := ((knows_in 7 18 (by decide) (by kernel_rfl) rfl rfl) : Knows _ _ _ _ _ _ 8 _ _) a ww hw hf hd
           have hcc : ∀ c, a.eval (.const c) = c := fun _ => rfl
           revert hcc h18
           generalize a.eval = ev
           intro hcc h18
           unfold execOp
           simp only [h18, hcc]
           go_simp)),
     (step_ex (Value.bool false) rfl (.inl rfl) rfl (fun a ww hw hf hd => by
           have h18 : a.eval (.tmp 18) = Value.tuple #[Value.int .i64 0, Value.bool false] := ((knows_in 7 18 (by decide) (by kernel_rfl) rfl rfl) : Knows _ _ _ _ _ _ 9 _ _) a ww hw hf hd
           have hcc : ∀ c, a.eval (.const c) = c := fun _ => rfl
           revert hcc h18
           generalize a.eval = ev
           intro hcc h18
           unfold execOp
           simp only [h18, hcc]
           go_simp)),
     (step_ex (Value.int .i64 0) rfl (.inl rfl) rfl (fun a ww hw hf hd => by
           have h26 : a.eval (.tmp 26) = Value.int .i64 0 := ((knows_in 8 26 (by decide) (by kernel_rfl) rfl rfl) : Knows _ _ _ _ _ _ 10 _ _) a ww hw hf hd
           have hcc : ∀ c, a.eval (.const c) = c := fun _ => rfl
           revert hcc h26
           generalize a.eval = ev
           intro hcc h26
           unfold execOp
           simp only [h26, hcc]
           go_simp)), trivial⟩ ?_
  intro val W3 hw hS _ _
  have e19 : val 19 = Value.pointer (some ⟨p, 0, none⟩) := hS 0 19 (by decide) rfl
  have e20 : val 20 = Value.pointer (some ⟨p, 0, none⟩) := hS 1 20 (by decide) rfl
  have e21 : val 21 = Value.pointer (some ⟨p, 5, none⟩) := hS 2 21 (by decide) rfl
  have e22 : val 22 = Value.map (some s.mI) := hS 3 22 (by decide) rfl
  have e23 : val 23 = Value.slice A x.length c := hS 4 23 (by decide) rfl
  have e24 : val 24 = Value.string (bstr x) := hS 5 24 (by decide) rfl
  have e25 : val 25 = Value.tuple #[Value.int .i64 0, Value.bool false] := hS 6 25 (by decide) rfl
  have e18 : val 18 = Value.tuple #[Value.int .i64 0, Value.bool false] := hS 7 18 (by decide) rfl
  have e26 : val 26 = Value.int .i64 0 := hS 8 26 (by decide) rfl
  have e27 : val 27 = Value.bool false := hS 9 27 (by decide) rfl
  have e6 : val 6 = Value.int .i64 0 := hS 10 6 (by decide) rfl
  simp only [putVals, List.foldl_cons, List.foldl_nil, List.drop_succ_cons, List.drop_zero, Act.put, List.setIfInBounds_toArray, List.set_cons_succ, List.set_cons_zero, e19, e20, e21, e22, e23, e24, e25, e18, e26, e27, e6]
  clear e19 e20 e21 e22 e23 e24 e25 e18 e26 e27 e6 hS
  have hT3 := hT.next hw
  have hw3 : Below w.heap.size w W3 := hw
  have hA3 := hA.below hw
  obtain ⟨hn, ht, hwf, hPT⟩ := hP.text hx hx2 hj (by omega)
  have HPT := hid hPT
  have HN := hid hn
  have hzl := szsOf_length L
  have hzb := szsOf_bd L
  have hnl := hP.nl
  have hnb := hP.nb
  have c4 : W3.cell? ⟨p, 4, none⟩ = some (.slice s.AX X.length s.cX) := hT3.blk.cell (i := 4) rfl
  have hL40 : L.length ≤ 40 := by omega
  clear hlk hcv hw hT hPT hn hP
  have HL := hid hL
  have HX := hid hX
  go_upto_region 12 with (first
    | (go_at_call 105; refine (textAt_any (X.length : Int) _).mono ?_; rintro e W4 ⟨rfl, hb4⟩)
    | (go_at_call 101; refine (add_any p s (szsOf L) DN DI L X (9, (X.length : Int), 0) (X.length + 1) _ (hT3.next hb4) ht hzl hzb hL40 hwf hnl hnb hN).mono ?_; rintro e W5 ⟨rfl, s', hnx, hmN, hmI, hT5, hC5, hf5⟩))
  have hz3 : w.heap.size ≤ W4.heap.size := Nat.le_trans hw3.size hb4.size
  have hA4 := (hA.below hw3).below hb4
  have hA5 : Nums W5 .u8 A x := fun hp => nums_chg hA4 hC5 (fun g o sp e => fun hb => hAF hp g o sp e (hF g hb)) hp
  have hcv5 : (convert 23 9 (.slice A x.length c)).run Tryz.prog W5 = .ok (.string (bstr x)) W5 := conv_any hx hA5
  have hC1 : Chg F w W5 := (Chg.of (hw3.trans (Below.mono hb4 hw3.size)) F).trans hC5 (fun b _ hb => hF b hb)
  have hf1 : ∀ b, foot p s' b → F b ∨ (w.heap.size ≤ b ∧ b < W5.heap.size) := fun b hb => by
    rcases hf5 b hb with h1 | h1
    · exact .inl (hF b h1)
    · exact .inr ⟨Nat.le_trans hz3 h1, hT5.lt b hb⟩
  have hN5 : s'.mI ≠ s'.mN := by rw [hmN, hmI]; exact hN
  have hl1 : (L ++ [(9, (X.length : Int), 0)]).length = L.length + 1 := by simp
  obtain ⟨L1, hL1⟩ : ∃ L1, L ++ [(9, (X.length : Int), 0)] = L1 := ⟨_, rfl⟩
  have HL1 := hid hL1
  have HPT2 := HPT.out
  rw [← hnx] at HPT2
  rw [← szsOf_app] at hT5
  rw [hL1] at hT5 hl1 HPT2
  have HPF := hid HPT2
  generalize DN.put (tk (9, (X.length : Int), 0)) (i64 L.length) = DN1 at *
  clear hT3 hb4 hC5 hf5 hL1 HPT HPT2 hnx hmN hmI hA4 hA3 hA hw3 hz3 ht hwf hzl hzb hnl hnb c4
  obtain ⟨AT, cT, AS, cS, mN, AX, cX, mI, nx⟩ := s'
  have p4 : W5.cell? ⟨p, 4, none⟩ = some (.slice AX X.length cX) := hT5.blk.cell (i := 4) rfl
  have q4 := hT5.blk.free 4
  have hX40 : X.length ≤ 1000 := by omega
  have hn0 := below_new W5 (.cells #[.string (bstr x)] 9)
  have hT6 := hT5.next hn0
  have HR6 : Rw (W5.alloc (.cells #[.string (bstr x)] 9)) W5.heap.size 0 [.string (bstr x)] := Rw.new W5 [.string (bstr x)] 9
  have hC6 := hC1.next hn0
  obtain ⟨W6, hW6⟩ : ∃ W6, W5.alloc (.cells #[.string (bstr x)] 9) = W6 := ⟨_, rfl⟩
  rw [hW6] at hn0 hT6 HR6 hC6
  have HW6 := hid hW6
  have hz56 : W5.heap.size ≤ W6.heap.size := hn0.size
  have hone : ∀ u ∈ [Value.string (bstr x)], u.oneCell' = true := by simp [Value.oneCell']
  clear hW6 hn0
  go_upto_region 14 with (at_builtin; rw [HW6.out]; refine wpList_app1 rfl (.tmp 57) (.tmp 59) 122 9 rfl Tryz.underlying122 infSb rfl (by decide) (by decide) hT6.rX rfl W5.heap.size rfl HR6 rfl hone hX40 ?_
                          rintro u W7 ⟨A7, c7, rfl, hl7, hm7, hr7, hg7, ho7⟩
                          have hp7 := hT6.blk.grown hg7 (blk_ne hT6.blk hT6.rX (by decide))
                          have p47 := hp7.cell (i := 4) rfl
                          have q47 := hp7.free 4)
  have rT7 := hT6.rT.kept hg7 (row_ne hT6.rT hT6.rX (by decide))
  have rS7 := hT6.rS.kept hg7 (row_ne hT6.rS hT6.rX (by decide))
  have mN7 := hT6.mN.kept hg7 (map_ne hT6.mN hT6.rX)
  have mI7 := hT6.mI.kept hg7 (map_ne hT6.mI hT6.rX)
  have hfX : ∀ g, (Value.slice AX X.length cX).ownBlock = some g → F g ∨ w.heap.size ≤ g := fun g e => (hf1 g (.inr (.inr (.inr (.inr (.inr (by rw [← e]; exact (own0 _ _ _).symm))))))).imp id (fun h => h.1)
  have hfp : F p ∨ w.heap.size ≤ p := (hf1 p (.inl rfl)).imp id (fun h => h.1)
  have hfI : F mI ∨ w.heap.size ≤ mI := (hf1 mI (.inr (.inr (.inl rfl)))).imp id (fun h => h.1)
  have hC7 := hC6.grown hg7 hfX
  obtain ⟨W8, hW8⟩ : ∃ W8, W7.setCell ⟨p, 4, none⟩ (.slice A7 (X.length + 1) c7) = W8 := ⟨_, rfl⟩
  have hp8 : Blk W8 p 126 ((Lay.mk AT cT AS cS mN A7 c7 mI nx).cells L1.length (X.length + 1)) := by rw [← hW8]; exact hp7.set 4 _
  have rT8 := row_setC rT7 hp7 (by decide) 4 (.slice A7 (X.length + 1) c7)
  have rS8 := row_setC rS7 hp7 (by decide) 4 (.slice A7 (X.length + 1) c7)
  have rX8 := row_setC hr7 hp7 (by decide) 4 (.slice A7 (X.length + 1) c7)
  have mN8 := mN7.setCell (a := ⟨p, 4, none⟩) (blk_map mN7 hp7) (.slice A7 (X.length + 1) c7)
  have mI8 := mI7.setCell (a := ⟨p, 4, none⟩) (blk_map mI7 hp7) (.slice A7 (X.length + 1) c7)
  have hC8 := hC7.setCell (p := ⟨p, 4, none⟩) hfp (.slice A7 (X.length + 1) c7)
  rw [hW8] at rT8 rS8 rX8 mN8 mI8 hC8
  have hfn : ∀ g, (Value.slice A7 0 c7).ownBlock = some g → F g ∨ w.heap.size ≤ g := fun g e => by
    rcases ho7 with h | h
    · exact hfX g (h.symm.trans ((own0 _ _ _).trans e))
    · have e2 := (own0 A7 (X.length + 1) c7).trans e
      rw [h] at e2; injection e2 with e2; exact .inr (by have := hC6.size; omega)
  rw [hW8]
  clear hW8 hp7 p47 q47 rT7 rS7 mN7 mI7 hr7 hg7 ho7 hC7 hT6 HR6 hC6 p4 q4 HW6 hT5
  have p5 : W8.cell? ⟨p, 5, none⟩ = some (.map (some mI)) := hp8.cell (i := 5) rfl
  have hnlt : X.length < maxLen := by unfold maxLen; omega
  have hkx : keyOf Tryz.prog 9 (.string (bstr x)) = some (tkx x) := WideMaps.keyOf_string_mk Tryz.underlying9 (s := bstr x) (by rw [bstr_size]; unfold maxLen; omega)
  have hpe := plainElem_int (H := Unit) Tryz.underlying3 (q := .i64) (a := (X.length : Int)) (WalkArith.wf_i64 (by omega))
  go_upto_region 15 with (at_mapUpdate; refine wpList_mapUpdate_own _ rfl _ _ _ 123 rfl 9 3 lawX Tryz.underlying123 _ mI X.length DI rfl mI8 hnlt _ _ (tkx x) rfl rfl hkx (i64 X.length) [] hpe ?_; intro W9 mI9 hg9)
  have hp9 := hp8.grown hg9 (fun e => by injection e with e; exact blk_map mI8 hp8 e.symm)
  have rT9 := rT8.kept hg9 (.inr fun e => map_ne mI8 rT8 e.symm)
  have rS9 := rS8.kept hg9 (.inr fun e => map_ne mI8 rS8 e.symm)
  have rX9 := rX8.kept hg9 (.inr fun e => map_ne mI8 rX8 e.symm)
  have mN9 := mN8.kept hg9 (fun e => hN5 (by injection e with e; exact e.symm))
  have hC9 := hC8.grown hg9 (fun g e => by injection e with e; rw [← e]; exact hfI)
  clear hp8 rT8 rS8 rX8 mN8 mI8 hC8 hg9 p5
  go_wp2
  go_ret2
  have hlx : (X ++ [x]).length = X.length + 1 := by simp
  have hmx : (X ++ [x]).map (fun x => Value.string (bstr x)) = X.map (fun x => Value.string (bstr x)) ++ [.string (bstr x)] := by simp
  have hT9 : TS W9 p ⟨AT, cT, AS, cS, mN, A7, c7, mI, nx⟩ (szsOf L1) DN1 (DI.put (tkx x) (i64 X.length)) L1 (X ++ [x]) :=
    ⟨by rw [hlx]; exact hp9, rT9, rS9, by rw [hlx, hmx]; exact rX9, mN9, by rw [hlx]; exact mI9⟩
  refine ⟨L.length, rfl, L1, X ++ [x], .inr ⟨hj, rfl, HL1.out.symm, rfl⟩, ⟨⟨AT, cT, AS, cS, mN, A7, c7, mI, nx⟩, _, _, hT9, HPF.out, fun b hb => ?_, hN5⟩, hC9⟩
  have hb9 := hT9.lt b hb
  have : F b ∨ w.heap.size ≤ b := by
    rcases hb with h | h | h | h | h | h
    · rw [h]; exact hfp
    · exact (hf1 b (.inr (.inl h))).imp id (fun h => h.1)
    · exact (hf1 b (.inr (.inr (.inl h)))).imp id (fun h => h.1)
    · exact (hf1 b (.inr (.inr (.inr (.inl h))))).imp id (fun h => h.1)
    · exact (hf1 b (.inr (.inr (.inr (.inr (.inl h)))))).imp id (fun h => h.1)
    · exact hfn b h
  exact this.imp id (fun h => ⟨h, hb9⟩)
set_option maxRecDepth 50000 in
theorem text_any (F : Nat → Prop) (p : Nat) (L : List T3) (X : List (List Int)) (A : Option Addr) (c : Nat) (x : List Int) (w : World) (h : CS F w p L X) (hx : TByt x) (hx2 : x.length ≤ 100) (hA : Nums w .u8 A x) (hAF : 0 < x.length → ∀ g o sp, A = some ⟨g, o, sp⟩ → ¬ F g) (hL : L.length ≤ 39) (hX : X.length ≤ 39) :
    Calls Tryz.prog 53 #[.pointer (some ⟨p, 0, none⟩), .slice A x.length c] w fun e w' => ∃ n L' X', e = .returned (.tuple #[.int .i64 n, .int .i64 0]) ∧ TextR L X x n L' X' ∧ CS (Grw F w w') w' p L' X' ∧ Chg F w w' := by
  by_cases hj : ∃ j : Nat, X[j]? = some x
  · obtain ⟨j, hj⟩ := hj
    exact text_old F p L X A c x w h hx hx2 hA hAF hL hX j hj
  · exact text_new F p L X A c x w h hx hx2 hA hAF hL hX (fun j e => hj ⟨j, e⟩)
set_option maxRecDepth 50000 in
set_option maxHeartbeats 1000000 in
theorem text_nil (w : World) : Calls Tryz.prog 53 #[.pointer none, .slice none 0 0] w fun e w' => e = .returned (.tuple #[.int .i64 0, .int .i64 1]) ∧ w = w' := by
  go_enter Tryz.func53, Tryz.ntmps53
  go_wp2_with (go_at_call 99; refine (exists_nil _).mono ?_; rintro e w2 ⟨rfl, rfl⟩)
  go_ret2
  exact ⟨rfl, rfl⟩
end Go.Proofs.YtpncohoonfahpaaGreatDoor
