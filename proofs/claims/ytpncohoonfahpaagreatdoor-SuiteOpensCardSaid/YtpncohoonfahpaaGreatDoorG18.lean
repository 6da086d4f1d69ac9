/- Texts of this proof, laid together: TGet, TBytes. -/
import Derived.Test.YtpncohoonfahpaaGreatDoorTTextM
/- Get, Size and Bytes on the code's store. -/
namespace Go.Proofs.YtpncohoonfahpaaGreatDoor
open Go Go.RowKit Go.Maps

set_option maxRecDepth 50000 in
/-- Two results, the first a row in memory. -/
theorem results_row_tmp {P : Program} {fn : Func} {p t : Tmp} {ty : TypeId} (h : fn.results = #[.cell p ty, .tmp t]) (tmps : Array Value) (w : World) (b o : Nat) (hp : tmps.getD p undef = .pointer (some ⟨b, o, none⟩))
    (cs : List Value) (d : TypeDesc) (hc : w.rangeAt b o cs) (hu : P.underlying ty = some d) (hd : d.isRow = true) (hi : (P.info? ty).map (·.size) = some cs.length) :
    (results fn tmps).run P w = .ok (.tuple #[.agg cs.toArray, tmps.getD t undef]) w := by
  simp only [results, h]
  have hp2 : tmps[p]?.getD undef = .pointer (some ⟨b, o, none⟩) := by rw [← hp]; simp
  simp [hp2, asAddr, run_loadVar_mid w b o ty cs d hc hu hd hi]
set_option maxRecDepth 50000 in
theorem ret_row_tmp {P : Program} {fn : Func} {R : Ending → World → Prop} {a : Act} {w : World} {p t : Tmp} {ty : TypeId} (h : fn.results = #[.cell p ty, .tmp t]) (b o : Nat) (hp : a.tmps.getD p undef = .pointer (some ⟨b, o, none⟩))
    (cs : List Value) (d : TypeDesc) (hc : w.rangeAt b o cs) (hu : P.underlying ty = some d) (hd : d.isRow = true) (hi : (P.info? ty).map (·.size) = some cs.length) (hf : a.defers = [])
    (hR : R (.returned (.tuple #[.agg cs.toArray, a.tmps.getD t undef])) w) : bodyPost P fn R .ret a w :=
  bodyPost_ret (results_row_tmp h a.tmps w b o hp cs d hc hu hd hi) hf hR
set_option maxRecDepth 50000 in
/-- A new block for a term, and what lies there once a term is stored. -/
theorem zero_world (w : World) : ∃ W, w.alloc (.cells #[.int .i64 0, .int .i64 0, .int .i64 0] 65) = W ∧ Below w.heap.size w W ∧ Blk W w.heap.size 65 [.int .i64 0, .int .i64 0, .int .i64 0] :=
  ⟨_, rfl, below_new w _, Blk.new w 65 [.int .i64 0, .int .i64 0, .int .i64 0]⟩
set_option maxRecDepth 50000 in
theorem tone (k a b : Int) : (#[.int .i64 k, .int .i64 a, .int .i64 b] : Array Value).all (·.oneCell') = true := by simp [Value.oneCell']
set_option maxRecDepth 50000 in
theorem tsz (k a b : Int) : (Tryz.prog.info? 65).map (·.size) = some (#[.int .i64 k, .int .i64 a, .int .i64 b] : Array Value).size := szV infT (vs := tc (k, a, b)) (tc_len _)
set_option maxRecDepth 50000 in
theorem tstore {W : World} {b0 B : Nat} {zs : List Value} (hB : Blk W B 65 zs) (hz : zs.length = 3) (hb : Below b0 W W) (h0 : b0 ≤ B) (k a b : Int) : W.there B 0 (#[.int .i64 k, .int .i64 a, .int .i64 b] : Array Value).size ∧ (W.setCells B 0 (#[.int .i64 k, .int .i64 a, .int .i64 b] : Array Value).toList).rangeAt B 0 [.int .i64 k, .int .i64 a, .int .i64 b] ∧ Below b0 W (W.setCells B 0 (#[.int .i64 k, .int .i64 a, .int .i64 b] : Array Value).toList) := by
  have h1 := hB.rw.roomA (us := [.int .i64 k, .int .i64 a, .int .i64 b]) (by rw [hz]; rfl)
  have h2 := hB.rw.storedA (us := [.int .i64 k, .int .i64 a, .int .i64 b]) (by rw [hz]; rfl)
  exact ⟨h1, h2.range, Below.setCells hb h0 0 _⟩

set_option maxRecDepth 50000 in
set_option maxHeartbeats 2000000 in
theorem get_yes (F : Nat → Prop) (p : Nat) (L : List T3) (X : List (List Int)) (n : Nat) (k a b : Int) (w : World) (h : CS F w p L X) (hn : L[n]? = some (k, a, b)) :
    Calls Tryz.prog 45 #[.pointer (some ⟨p, 0, none⟩), .int .i64 n] w fun e w' => e = .returned (.tuple #[tv (k, a, b), .bool true]) ∧ Below w.heap.size w w' := by
  obtain ⟨W, hW, hB, hB4⟩ := zero_world w
  obtain ⟨A, c, AX, cX, c0, c1, c4, hA, hc, hcm⟩ := (h.next hB).cells
  obtain ⟨g, rfl, hg, hcell⟩ := hA (by have := get_lt hn; omega)
  obtain ⟨x0, x1, x2⟩ := hcell n _ hn
  have hnl := get_lt hn
  have hnl2 : (n : Int) < L.length := by omega
  have hn0 : (0 : Int) ≤ n := by omega
  have Hh : Hid (true = decide (0 ≤ (n : Int) ∧ (n : Int) < L.length)) := hid (decide_eq_true ⟨hn0, hnl2⟩).symm
  obtain ⟨t1, t2, t3⟩ := tstore hB4 rfl (Below.refl w.heap.size W) (Nat.le_refl _) k a b
  have hsz := tsz k a b
  have hone := tone k a b
  have HW := hid hW
  have HB := hid (hB.trans t3)
  dsimp only at x0 x1 x2
  clear hW hB hB4 hA hcell h hn t3
  go_enter Tryz.func45, Tryz.ntmps45
  go_upto_region 1 with (fail)
  rw [HW.out]
  go_wp2_with (first
    | (go_at_call 95; refine (has_any p L.length c (some ⟨g, 0, none⟩) n true _ c0 c1 Hh).mono ?_; rintro e w2 ⟨rfl, rfl⟩)
    | (with_reducible refine wpList_store_mid (op := ⟨none, .store 65 (.tmp 4) (.tmp 17), _, _, _, _⟩) rfl 65 (.tmp 4) (.tmp 17) rfl w.heap.size 0 #[.int .i64 k, .int .i64 a, .int .i64 b] rfl rfl t1 hsz hone ?_))
  refine ret_row_tmp rfl w.heap.size 0 rfl [.int .i64 k, .int .i64 a, .int .i64 b] _ t2 Tryz.underlying65 rfl hsz rfl ?_
  exact ⟨rfl, HB.out⟩
set_option maxRecDepth 50000 in
set_option maxHeartbeats 2000000 in
theorem get_no (F : Nat → Prop) (p : Nat) (L : List T3) (X : List (List Int)) (n : Int) (w : World) (h : CS F w p L X) (hn : ¬ (0 ≤ n ∧ n < L.length)) :
    Calls Tryz.prog 45 #[.pointer (some ⟨p, 0, none⟩), .int .i64 n] w fun e w' => e = .returned (.tuple #[tv (0, 0, 0), .bool false]) ∧ Below w.heap.size w w' := by
  obtain ⟨W, hW, hB, hB4⟩ := zero_world w
  obtain ⟨A, c, AX, cX, c0, c1, c4, hA, hc, hcm⟩ := (h.next hB).cells
  have Hh : Hid (false = decide (0 ≤ n ∧ n < L.length)) := hid (decide_eq_false hn).symm
  obtain ⟨t1, t2, t3⟩ := tstore hB4 rfl (Below.refl w.heap.size W) (Nat.le_refl _) 0 0 0
  have hsz := tsz 0 0 0
  have hone := tone 0 0 0
  have HW := hid hW
  have HB := hid (hB.trans t3)
  clear hW hB hB4 hA h hn t3
  go_enter Tryz.func45, Tryz.ntmps45
  go_upto_region 1 with (fail)
  rw [HW.out]
  go_wp2_with (first
    | (go_at_call 95; refine (has_any p L.length c A n false _ c0 c1 Hh).mono ?_; rintro e w2 ⟨rfl, rfl⟩)
    | (with_reducible refine wpList_store_mid (op := ⟨none, .store 65 (.tmp 4) (.tmp 10), _, _, _, _⟩) rfl 65 (.tmp 4) (.tmp 10) rfl w.heap.size 0 #[.int .i64 0, .int .i64 0, .int .i64 0] rfl rfl t1 hsz hone ?_))
  refine ret_row_tmp rfl w.heap.size 0 rfl [.int .i64 0, .int .i64 0, .int .i64 0] _ t2 Tryz.underlying65 rfl hsz rfl ?_
  exact ⟨rfl, HB.out⟩
set_option maxRecDepth 50000 in
theorem CS.sizes {F : Nat → Prop} {w : World} {p : Nat} {L : List T3} {X : List (List Int)} (h : CS F w p L X) : ∃ A c, w.cell? ⟨p, 2, none⟩ = some (.slice A L.length c) ∧ Nums w .i64 A (szsOf L) ∧ L.length ≤ c := by
  obtain ⟨s, DN, DI, hT, hP, hF, hN⟩ := h
  have hO : Owns w 0 3 .i64 (.slice s.AS L.length s.cS) (szsOf L) := by
    have := hT.rS
    rw [← szsOf_length L] at this
    have e : s.vS (szsOf L).length = .slice s.AS L.length s.cS := by rw [szsOf_length]; rfl
    rw [e] at this
    exact this
  exact ⟨s.AS, s.cS, hT.blk.cell (i := 2) rfl, hO.nums, (rowcap hT.rS).1⟩
end Go.Proofs.YtpncohoonfahpaaGreatDoor

/- Bytes on the code's store. -/
namespace Go.Proofs.YtpncohoonfahpaaGreatDoor
open Go Go.RowKit Go.Maps

set_option maxRecDepth 50000 in
theorem bstr_get {x : List Int} (hx : TByt x) {j : Nat} (hj : j < x.length) : (((bstr x).data.toList.getD j 0).toNat : Int) = x.getD j 0 := by
  have hb := hx x[j] (List.getElem_mem hj)
  simp only [bstr, List.getD_eq_getElem?_getD, List.getElem?_map, List.getElem?_eq_getElem hj, Option.map_some, Option.getD_some, UInt8.toNat_ofNat']
  omega
set_option maxRecDepth 50000 in
theorem bytes_nums (w : World) {x : List Int} (hx : TByt x) : Nums (Lib.bytesWorld w 5 (bstr x)) .u8 (some ⟨w.heap.size, 0, none⟩) x := fun hp => by
  refine ⟨w.heap.size, 0, rfl, by rw [Lib.bytesWorld_size]; omega, fun i hi => ?_⟩
  rw [Nat.zero_add, Lib.bytesWorld_cell w _ _ i (by rw [bstr_size]; exact hi), bstr_get hx hi]
set_option maxRecDepth 50000 in
theorem bytes_below (w : World) (s : ByteArray) : Below w.heap.size w (Lib.bytesWorld w 5 s) :=
  ⟨rfl, rfl, rfl, by rw [Lib.bytesWorld_size]; omega, fun k hk => Lib.bytesWorld_at_old w _ s k hk⟩
set_option maxRecDepth 50000 in
theorem CS.texts {F : Nat → Prop} {w : World} {p : Nat} {L : List T3} {X : List (List Int)} (h : CS F w p L X) : ∃ A c, w.cell? ⟨p, 4, none⟩ = some (.slice A X.length c) ∧ X.length ≤ c ∧ c ≤ maxLen ∧ ∀ (j : Nat) x, X[j]? = some x → ∃ g, A = some ⟨g, 0, none⟩ ∧ w.cell? ⟨g, j, none⟩ = some (.string (bstr x)) := by
  obtain ⟨s, DN, DI, hT, hP, hF, hN⟩ := h
  have hc := rowcap hT.rX
  refine ⟨s.AX, s.cX, hT.blk.cell (i := 4) rfl, hc.1, hc.2, fun j x hj => ?_⟩
  have hjl := get_lt hj
  rcases hT.rX.2 with ⟨hv, hn⟩ | ⟨g, cap, cur, hv, hb, hg, hn, hm, hs, ht⟩
  · omega
  · injection hv with h1 h2 h3
    refine ⟨g, h1, ?_⟩
    have hv : (X.map fun x => Value.string (bstr x))[j]? = some (.string (bstr x)) := by simp [hj]
    have e : cur[j]? = some (.string (bstr x)) := by
      rw [← ht, List.getElem?_take, if_pos (by omega)] at hv
      simpa using hv
    simp [World.cell?, hg, e]
set_option maxRecDepth 50000 in
theorem CS.pure {F : Nat → Prop} {w : World} {p : Nat} {L : List T3} {X : List (List Int)} (h : CS F w p L X) : ∃ nx DN DI, PF nx DN DI L X := by
  obtain ⟨s, DN, DI, hT, hP, hF, hN⟩ := h
  exact ⟨s.nx, DN, DI, hP⟩
set_option maxRecDepth 50000 in
set_option maxHeartbeats 4000000 in
theorem bytes_yes (F : Nat → Prop) (p : Nat) (L : List T3) (X : List (List Int)) (n j : Nat) (x : List Int) (w : World) (h : CS F w p L X) (hn : L[n]? = some (9, (j : Int), 0)) (hj : X[j]? = some x) :
    Calls Tryz.prog 46 #[.pointer (some ⟨p, 0, none⟩), .int .i64 n] w fun e w' => ∃ A c, e = .returned (.tuple #[.slice A x.length c, .bool true]) ∧ Below w.heap.size w w' ∧ Nums w' .u8 A x := by
  obtain ⟨A, c, AX0, cX0, c0, c1, _, hA, hc, hcm⟩ := h.cells
  obtain ⟨AX, cX, c4, hcX, hmX, htx⟩ := h.texts
  obtain ⟨gx, rfl, hx0⟩ := htx j x hj
  obtain ⟨nx, DN, DI, hP⟩ := h.pure
  have hxb := (hP.xb x (List.mem_of_getElem? hj)).1
  have hnl := get_lt hn
  have hjl := get_lt hj
  have hA0 := hA
  obtain ⟨g, rfl, hg, hcell⟩ := hA (by omega)
  obtain ⟨_, x1, _⟩ := hcell n _ hn
  dsimp only at x1
  have hnl2 : (n : Int) < L.length := by omega
  have hn0 : (0 : Int) ≤ n := by omega
  have hjl2 : (j : Int) < X.length := by omega
  have hj0 : (0 : Int) ≤ j := by omega
  have hi : Hid (true = decide (0 ≤ (n : Int) ∧ (n : Int) < L.length ∧ (L.getD (n : Int).toNat (0, 0, 0)).1 = 9)) := hid (by
    refine (decide_eq_true ⟨hn0, hnl2, ?_⟩).symm
    simp [List.getD, hn])
  have HX := hid hxb
  clear hcell hP htx hA hn hj hxb
  go_enter Tryz.func46, Tryz.ntmps46
  go_upto_region 3 with (go_at_call 96; refine (is_any p c (some ⟨g, 0, none⟩) L n 9 true _ hc hcm c0 c1 hA0 hi).mono ?_; rintro e w2 ⟨rfl, rfl⟩)
  refine region_spec2 14 25 (fun _ => false) [Is (Value.pointer (some ⟨p, 0, none⟩)), Is (Value.pointer (some ⟨p, 0, none⟩)), Is (Value.pointer (some ⟨p, 4, none⟩)), Is (Value.slice (some ⟨gx, 0, none⟩) X.length cX), Is (Value.pointer (some ⟨p, 0, none⟩)), Is (Value.pointer (some ⟨p, 0, none⟩)), Is (Value.pointer (some ⟨p, 1, none⟩)), Is (Value.slice (some ⟨g, 0, none⟩) L.length c), Is (Value.int .i64 n), Is (Value.pointer (some ⟨g, n * 3, none⟩)), Is (Value.pointer (some ⟨g, n * 3 + 1, none⟩)), Is (Value.int .i64 j), Is (Value.pointer (some ⟨gx, j, none⟩)), Is (Value.string (bstr x))] [10, 11, 12, 13, 14, 15, 16, 17, 18, 19, 20, 21, 22, 23] (by kernel_rfl) (by kernel_rfl) (by kernel_rfl) (Nat.le_of_eq rfl) (grows_cons (Is.grows _) (grows_cons (Is.grows _) (grows_cons (Is.grows _) (grows_cons (Is.grows _) (grows_cons (Is.grows _) (grows_cons (Is.grows _) (grows_cons (Is.grows _) (grows_cons (Is.grows _) (grows_cons (Is.grows _) (grows_cons (Is.grows _) (grows_cons (Is.grows _) (grows_cons (Is.grows _) (grows_cons (Is.grows _) (grows_cons (Is.grows _) grows_nil))))))))))))))
    ⟨(step_ex (Value.pointer (some ⟨p, 0, none⟩)) rfl (.inl rfl) rfl (fun a ww hw hf hd => by
           have h0 : a.eval (.tmp 0) = Value.pointer (some ⟨p, 0, none⟩) := ((knows_out 0 (by kernel_rfl) rfl) : Knows _ _ _ _ _ _ 0 _ _) a ww hw hf hd
           have hcc : ∀ c, a.eval (.const c) = c := fun _ => rfl
           revert hcc h0
           generalize a.eval = ev
           intro hcc h0
           unfold execOp
           simp only [h0, hcc]
           go_simp)),
     (step_ex (Value.pointer (some ⟨p, 0, none⟩)) rfl (.inl rfl) rfl (fun a ww hw hf hd => by
           have h10 : a.eval (.tmp 10) = Value.pointer (some ⟨p, 0, none⟩) := ((knows_in 0 10 (by decide) (by kernel_rfl) rfl rfl) : Knows _ _ _ _ _ _ 1 _ _) a ww hw hf hd
           have hcc : ∀ c, a.eval (.const c) = c := fun _ => rfl
           revert hcc h10
           generalize a.eval = ev
           intro hcc h10
           unfold execOp
           simp only [h10, hcc]
           go_simp)),
     (step_ex (Value.pointer (some ⟨p, 4, none⟩)) rfl (.inl rfl) rfl (fun a ww hw hf hd => by
           have h11 : a.eval (.tmp 11) = Value.pointer (some ⟨p, 0, none⟩) := ((knows_in 1 11 (by decide) (by kernel_rfl) rfl rfl) : Knows _ _ _ _ _ _ 2 _ _) a ww hw hf hd
           have hcc : ∀ c, a.eval (.const c) = c := fun _ => rfl
           revert hcc h11
           generalize a.eval = ev
           intro hcc h11
           unfold execOp
           simp only [h11, hcc]
           go_simp)),
     (step_ex (Value.slice (some ⟨gx, 0, none⟩) X.length cX) rfl (.inl rfl) rfl (fun a ww hw hf hd => by
           have h12 : a.eval (.tmp 12) = Value.pointer (some ⟨p, 4, none⟩) := ((knows_in 2 12 (by decide) (by kernel_rfl) rfl rfl) : Knows _ _ _ _ _ _ 3 _ _) a ww hw hf hd
           have f0 : ww.cell? ⟨p, 4, none⟩ = some (Value.slice (some ⟨gx, 0, none⟩) X.length cX) := cellB c4 hw
           have hcc : ∀ c, a.eval (.const c) = c := fun _ => rfl
           revert hcc h12
           generalize a.eval = ev
           intro hcc h12
           unfold execOp
           simp only [h12, hcc]
           go_simp)),
     (step_ex (Value.pointer (some ⟨p, 0, none⟩)) rfl (.inl rfl) rfl (fun a ww hw hf hd => by
           have h0 : a.eval (.tmp 0) = Value.pointer (some ⟨p, 0, none⟩) := ((knows_out 0 (by kernel_rfl) rfl) : Knows _ _ _ _ _ _ 4 _ _) a ww hw hf hd
           have hcc : ∀ c, a.eval (.const c) = c := fun _ => rfl
           revert hcc h0
           generalize a.eval = ev
           intro hcc h0
           unfold execOp
           simp only [h0, hcc]
           go_simp)),
     (step_ex (Value.pointer (some ⟨p, 0, none⟩)) rfl (.inl rfl) rfl (fun a ww hw hf hd => by
           have h14 : a.eval (.tmp 14) = Value.pointer (some ⟨p, 0, none⟩) := ((knows_in 4 14 (by decide) (by kernel_rfl) rfl rfl) : Knows _ _ _ _ _ _ 5 _ _) a ww hw hf hd
           have hcc : ∀ c, a.eval (.const c) = c := fun _ => rfl
           revert hcc h14
           generalize a.eval = ev
           intro hcc h14
           unfold execOp
           simp only [h14, hcc]
           go_simp)),
     (step_ex (Value.pointer (some ⟨p, 1, none⟩)) rfl (.inl rfl) rfl (fun a ww hw hf hd => by
           have h15 : a.eval (.tmp 15) = Value.pointer (some ⟨p, 0, none⟩) := ((knows_in 5 15 (by decide) (by kernel_rfl) rfl rfl) : Knows _ _ _ _ _ _ 6 _ _) a ww hw hf hd
           have hcc : ∀ c, a.eval (.const c) = c := fun _ => rfl
           revert hcc h15
           generalize a.eval = ev
           intro hcc h15
           unfold execOp
           simp only [h15, hcc]
           go_simp)),
     (step_ex (Value.slice (some ⟨g, 0, none⟩) L.length c) rfl (.inl rfl) rfl (fun a ww hw hf hd => by
           have h16 : a.eval (.tmp 16) = Value.pointer (some ⟨p, 1, none⟩) := ((knows_in 6 16 (by decide) (by kernel_rfl) rfl rfl) : Knows _ _ _ _ _ _ 7 _ _) a ww hw hf hd
           have f0 : ww.cell? ⟨p, 1, none⟩ = some (Value.slice (some ⟨g, 0, none⟩) L.length c) := cellB c1 hw
           have hcc : ∀ c, a.eval (.const c) = c := fun _ => rfl
           revert hcc h16
           generalize a.eval = ev
           intro hcc h16
           unfold execOp
           simp only [h16, hcc]
           go_simp)),
     (step_ex (Value.int .i64 n) rfl (.inl rfl) rfl (fun a ww hw hf hd => by
           have h1 : a.eval (.tmp 1) = Value.int .i64 n := ((knows_out 1 (by kernel_rfl) rfl) : Knows _ _ _ _ _ _ 8 _ _) a ww hw hf hd
           have hcc : ∀ c, a.eval (.const c) = c := fun _ => rfl
           revert hcc h1
           generalize a.eval = ev
           intro hcc h1
           unfold execOp
           simp only [h1, hcc]
           go_simp)),
     (step_ex (Value.pointer (some ⟨g, n * 3, none⟩)) rfl (.inl rfl) rfl (fun a ww hw hf hd => by
           have h17 : a.eval (.tmp 17) = Value.slice (some ⟨g, 0, none⟩) L.length c := ((knows_in 7 17 (by decide) (by kernel_rfl) rfl rfl) : Knows _ _ _ _ _ _ 9 _ _) a ww hw hf hd
           have h18 : a.eval (.tmp 18) = Value.int .i64 n := ((knows_in 8 18 (by decide) (by kernel_rfl) rfl rfl) : Knows _ _ _ _ _ _ 9 _ _) a ww hw hf hd
           have f0 := hnl2
           have f1 := hn0
           have hcc : ∀ c, a.eval (.const c) = c := fun _ => rfl
           revert hcc h17 h18
           generalize a.eval = ev
           intro hcc h17 h18
           unfold execOp
           simp only [h17, h18, hcc]
           go_simp)),
     (step_ex (Value.pointer (some ⟨g, n * 3 + 1, none⟩)) rfl (.inl rfl) rfl (fun a ww hw hf hd => by
           have h19 : a.eval (.tmp 19) = Value.pointer (some ⟨g, n * 3, none⟩) := ((knows_in 9 19 (by decide) (by kernel_rfl) rfl rfl) : Knows _ _ _ _ _ _ 10 _ _) a ww hw hf hd
           have hcc : ∀ c, a.eval (.const c) = c := fun _ => rfl
           revert hcc h19
           generalize a.eval = ev
           intro hcc h19
           unfold execOp
           simp only [h19, hcc]
           go_simp)),
     (step_ex (Value.int .i64 j) rfl (.inl rfl) rfl (fun a ww hw hf hd => by
           have h20 : a.eval (.tmp 20) = Value.pointer (some ⟨g, n * 3 + 1, none⟩) := ((knows_in 10 20 (by decide) (by kernel_rfl) rfl rfl) : Knows _ _ _ _ _ _ 11 _ _) a ww hw hf hd
           have f0 : ww.cell? ⟨g, n * 3 + 1, none⟩ = some (Value.int .i64 j) := cellB x1 hw
           have hcc : ∀ c, a.eval (.const c) = c := fun _ => rfl
           revert hcc h20
           generalize a.eval = ev
           intro hcc h20
           unfold execOp
           simp only [h20, hcc]
           go_simp)),
     (step_ex (Value.pointer (some ⟨gx, j, none⟩)) rfl (.inl rfl) rfl (fun a ww hw hf hd => by
           have h13 : a.eval (.tmp 13) = Value.slice (some ⟨gx, 0, none⟩) X.length cX := ((knows_in 3 13 (by decide) (by kernel_rfl) rfl rfl) : Knows _ _ _ _ _ _ 12 _ _) a ww hw hf hd
           have h21 : a.eval (.tmp 21) = Value.int .i64 j := ((knows_in 11 21 (by decide) (by kernel_rfl) rfl rfl) : Knows _ _ _ _ _ _ 12 _ _) a ww hw hf hd
           have f0 := hjl2
           have f1 := hj0
           have hcc : ∀ c, a.eval (.const c) = c := fun _ => rfl
           revert hcc h13 h21
           generalize a.eval = ev
           intro hcc h13 h21
           unfold execOp
           simp only [h13, h21, hcc]
           go_simp)),
     (step_ex (Value.string (bstr x)) rfl (.inl rfl) rfl (fun a ww hw hf hd => by
           have h22 : a.eval (.tmp 22) = Value.pointer (some ⟨gx, j, none⟩) := ((knows_in 12 22 (by decide) (by kernel_rfl) rfl rfl) : Knows _ _ _ _ _ _ 13 _ _) a ww hw hf hd
           have f0 : ww.cell? ⟨gx, j, none⟩ = some (Value.string (bstr x)) := cellB hx0 hw
           have hcc : ∀ c, a.eval (.const c) = c := fun _ => rfl
           revert hcc h22
           generalize a.eval = ev
           intro hcc h22
           unfold execOp
           simp only [h22, hcc]
           go_simp)), trivial⟩ ?_
  intro val W2 hw hS _ _
  have e10 : val 10 = Value.pointer (some ⟨p, 0, none⟩) := hS 0 10 (by decide) rfl
  have e11 : val 11 = Value.pointer (some ⟨p, 0, none⟩) := hS 1 11 (by decide) rfl
  have e12 : val 12 = Value.pointer (some ⟨p, 4, none⟩) := hS 2 12 (by decide) rfl
  have e13 : val 13 = Value.slice (some ⟨gx, 0, none⟩) X.length cX := hS 3 13 (by decide) rfl
  have e14 : val 14 = Value.pointer (some ⟨p, 0, none⟩) := hS 4 14 (by decide) rfl
  have e15 : val 15 = Value.pointer (some ⟨p, 0, none⟩) := hS 5 15 (by decide) rfl
  have e16 : val 16 = Value.pointer (some ⟨p, 1, none⟩) := hS 6 16 (by decide) rfl
  have e17 : val 17 = Value.slice (some ⟨g, 0, none⟩) L.length c := hS 7 17 (by decide) rfl
  have e18 : val 18 = Value.int .i64 n := hS 8 18 (by decide) rfl
  have e19 : val 19 = Value.pointer (some ⟨g, n * 3, none⟩) := hS 9 19 (by decide) rfl
  have e20 : val 20 = Value.pointer (some ⟨g, n * 3 + 1, none⟩) := hS 10 20 (by decide) rfl
  have e21 : val 21 = Value.int .i64 j := hS 11 21 (by decide) rfl
  have e22 : val 22 = Value.pointer (some ⟨gx, j, none⟩) := hS 12 22 (by decide) rfl
  have e23 : val 23 = Value.string (bstr x) := hS 13 23 (by decide) rfl
  simp only [putVals, List.foldl_cons, List.foldl_nil, List.drop_succ_cons, List.drop_zero, Act.put, List.setIfInBounds_toArray, List.set_cons_succ, List.set_cons_zero, e10, e11, e12, e13, e14, e15, e16, e17, e18, e19, e20, e21, e22, e23]
  clear e10 e11 e12 e13 e14 e15 e16 e17 e18 e19 e20 e21 e22 e23 hS
  have hcv := Lib.run_convert_string_bytes (P := Tryz.prog) W2 9 23 5 (bstr x) Tryz.underlying9 Tryz.underlying23 Tryz.underlying5
  have hN2 := bytes_nums W2 HX.out
  have hB2 : Below w.heap.size w (Lib.bytesWorld W2 5 (bstr x)) := (show Below w.heap.size w W2 from hw).trans (Below.mono (bytes_below W2 (bstr x)) hw.size)
  rw [bstr_size] at hcv
  have HN := hid hN2
  have HB := hid hB2
  clear hN2 hB2 hw
  go_wp2
  go_ret2
  exact ⟨_, _, rfl, HB.out, HN.out⟩
set_option maxRecDepth 50000 in
set_option maxHeartbeats 2000000 in
theorem bytes_no (F : Nat → Prop) (p : Nat) (L : List T3) (X : List (List Int)) (n : Int) (w : World) (h : CS F w p L X) (hn : ∀ (m : Nat) t, n = m → L[m]? = some t → t.1 ≠ 9) :
    Calls Tryz.prog 46 #[.pointer (some ⟨p, 0, none⟩), .int .i64 n] w fun e w' => e = .returned (.tuple #[.slice none 0 0, .bool false]) ∧ w = w' := by
  obtain ⟨A, c, AX0, cX0, c0, c1, _, hA, hc, hcm⟩ := h.cells
  have hi : Hid (false = decide (0 ≤ n ∧ n < L.length ∧ (L.getD n.toNat (0, 0, 0)).1 = 9)) := hid (by
    refine (decide_eq_false fun h => ?_).symm
    obtain ⟨h1, h2, h3⟩ := h
    have h4 : n.toNat < L.length := by omega
    refine hn n.toNat L[n.toNat] (by omega) (by simp [h4]) ?_
    simpa [List.getD, h4] using h3)
  clear hn h
  go_enter Tryz.func46, Tryz.ntmps46
  go_wp2_with (go_at_call 96; refine (is_any p c A L n 9 false _ hc hcm c0 c1 hA hi).mono ?_; rintro e w2 ⟨rfl, rfl⟩)
  go_ret2
  exact ⟨rfl, rfl⟩
end Go.Proofs.YtpncohoonfahpaaGreatDoor
