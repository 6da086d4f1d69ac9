/- Texts of this proof, laid together: RefC, RefD. -/
import Derived.Test.YtpaopdjbhmdfjaaDoorRModM
/- The reference's small numbers, sums, differences, comparisons. -/
namespace Go.Proofs.YtpaopdjbhmdfjaaDoor
open Go.RowKit

/-- Sixteen digits of a number. -/
def Rp (l : List Nat) (n : Nat) : Prop := l.length = 16 ∧ Digs l ∧ dv l = n
/-- A call returns new digits of a number. -/
def ROut (n : Nat) (w : World) (e : Ending) (w' : World) : Prop := ∃ A c ys, e = .returned (.slice A 16 c) ∧ Hid (Rp ys n) ∧ NumsF w.heap.size w' .i64 A (nl ys) ∧ Below w.heap.size w w'
theorem ROut.mk {n : Nat} {w w' : World} {A : Option Addr} {c : Nat} {ys : List Nat} (h : Rp ys n) (hN : NumsF w.heap.size w' .i64 A (nl ys)) (hb : Below w.heap.size w w') : ROut n w (.returned (.slice A 16 c)) w' := ⟨A, c, ys, rfl, h, hN, hb⟩
theorem pd_rp : Rp PD NT.PN := ⟨by decide, pd_digs, by decide⟩
theorem rp_out (w : World) : Calls Tryd.prog 15 #[] w (ROut NT.PN w) := (rp_any w).mono fun _ _ ⟨A, c, he, hN, hb⟩ => ⟨A, c, PD, he, pd_rp, hN, hb⟩
theorem rmod_out (A : Option Addr) (cA L n : Nat) (l : List Nat) (w : World) (hl : l.length = L) (hL1 : 16 ≤ L) (hn : L ≤ 50) (dl : Digs l) (hA : Nums w .i64 A (nl l)) (hv : dv l = n) : Calls Tryd.prog 52 #[.slice A L cA] w (ROut (n % NT.PN) w) := by
  subst hv
  exact (rmod_any A cA L l w hl hL1 hn dl hA).mono fun e w' ⟨A, c, ys, he, hy, hN, hb⟩ => ⟨A, c, ys, he, hy, hN, hb⟩
theorem rless_out {A B : Option Addr} {cA cB m n : Nat} {a b : List Nat} {w : World} (ha : Rp a m) (hb : Rp b n) (h : n ≤ m) (hA : Nums w .i64 A (nl a)) (hB : Nums w .i64 B (nl b)) : Calls Tryd.prog 53 #[.slice A 16 cA, .slice B 16 cB] w (ROut (m - n) w) :=
  (le_any A B cA cB 16 a b w ha.1 hb.1 (by omega) ha.2.1 hb.2.1 (by rw [ha.2.2, hb.2.2]; exact h) hA hB).mono fun e w' ⟨A, c, ys, he, hy, hN, hbl⟩ => ⟨A, c, ys, he, ⟨hy.1, hy.2.1, by rw [hy.2.2, ha.2.2, hb.2.2]⟩, hN, hbl⟩
theorem ral_out {A B : Option Addr} {cA cB m n : Nat} {a b : List Nat} {w : World} (ha : Rp a m) (hb : Rp b n) (hA : Nums w .i64 A (nl a)) (hB : Nums w .i64 B (nl b)) : Calls Tryd.prog 14 #[.slice A 16 cA, .slice B 16 cB] w fun e w' => e = .returned (.bool (decide (n ≤ m))) ∧ Below w.heap.size w w' :=
  (al_any A B cA cB 16 a b w ha.1 hb.1 (by omega) ha.2.1 hb.2.1 hA hB).mono fun e w' ⟨x, he, hy, hw⟩ => ⟨by rw [he, hy.out, ha.2.2, hb.2.2], hw.below⟩
theorem rsame_walk {A B : Option Addr} {cA cB m n : Nat} {a b : List Nat} {w : World} (ha : Rp a m) (hb : Rp b n) (hA : Nums w .i64 A (nl a)) (hB : Nums w .i64 B (nl b)) : Calls Tryd.prog 55 #[.slice A 16 cA, .slice B 16 cB] w fun e w' => e = .returned (.bool (decide (m = n))) ∧ Below w.heap.size w w' := by
  have HA := hid ha
  have HB := hid hb
  clear ha hb
  obtain ⟨x, hx⟩ : ∃ x : Bool, x = decide (n ≤ m) := ⟨_, rfl⟩
  have c1 : ∀ w', Below w.heap.size w w' → Calls Tryd.prog 14 #[.slice A 16 cA, .slice B 16 cB] w' fun e w'' => e = .returned (.bool x) ∧ Below w'.heap.size w' w'' := fun w' h => by rw [hx]; exact ral_out HA.out HB.out (hA.below h) (hB.below h)
  have c2 : ∀ w', Below w.heap.size w w' → Calls Tryd.prog 14 #[.slice B 16 cB, .slice A 16 cA] w' fun e w'' => e = .returned (.bool (decide (m ≤ n))) ∧ Below w'.heap.size w' w'' := fun w' h => ral_out HB.out HA.out (hB.below h) (hA.below h)
  have C1 := hid c1
  have C2 := hid c2
  have HX := hid hx
  clear c1 c2 hA hB hx
  cases x with
  | false =>
    have HE : Hid (m ≠ n) := hid fun e => by have := of_decide_eq_false HX.out.symm; omega
    go_enter Tryd.func55, Tryd.ntmps55
    go_wp2_with (go_at_call 14; refine (C1.out _ (Below.refl _ _)).mono ?_; rintro e w1 ⟨rfl, hb1⟩)
    go_ret
    exact ⟨ret_bool (decide_eq_false HE.out).symm, hb1⟩
  | true =>
    have HE : Hid (decide (m ≤ n) = decide (m = n)) := hid (decide_eq_decide.2 (by have := of_decide_eq_true HX.out.symm; omega))
    rw [HE.out] at C2
    go_enter Tryd.func55, Tryd.ntmps55
    generalize decide (m = n) = y at *
    go_wp2_with (first | (go_at_call 14; refine (C2.out _ hb1).mono ?_; rintro e w2 ⟨rfl, hb2⟩) | (go_at_call 14; refine (C1.out _ (Below.refl _ _)).mono ?_; rintro e w1 ⟨rfl, hb1⟩))
    go_ret
    exact ⟨rfl, hb1.trans (hb2.mono hb1.size)⟩

theorem make28 (n : Nat) (h : n ≤ 1000) (w : World) : (Instr.makeSlice 32 (.int .i64 (n : Int)) (.int .i64 (n : Int))).run Tryd.prog w = .ok (.slice (some ⟨w.heap.size, 0, none⟩) n n) (w.alloc (.cells (ints .i64 (nl (List.replicate n 0))).toArray 3)) := by
  have hi := Tryd.info3
  cases hc : Tryd.prog.info? 3 with
  | none => rw [hc] at hi; simp at hi
  | some i =>
    rw [hc] at hi
    simp only [Option.map_some, Option.some.injEq, Prod.mk.injEq] at hi
    have h2 := run_make (P := Tryd.prog) w 32 3 i (.int .i64 0) (by kernel_rfl) hc hi.1 .i64 .i64 n n (by omega) (by omega) (by rw [hi.2.2]; omega) (by omega)
    rw [h2, hi.2.1]
    simp only [Int.toNat_natCast, Nat.mul_one]
    congr 3
    apply Array.toList_inj.1
    show (madeCells #[.int .i64 0] n).toList = _
    rw [toList_madeCells_one]
    simp [ints, nl]
theorem small_rp {n : Nat} (h : n < 65536) : Rp ((List.replicate 16 0).set 0 n) n := by
  refine ⟨by simp, set_digs (fun v hv => by have := List.eq_of_mem_replicate hv; omega) _ _ h, ?_⟩
  have e : (List.replicate 16 0).set 0 n = n :: List.replicate 15 0 := rfl
  have h0 := dv_zeros [] 15
  rw [List.nil_append] at h0
  rw [e, dv, h0]
  simp [dv]
set_option maxHeartbeats 400000 in
theorem rsmall_out (n : Nat) (h : n < 65536) (w : World) : Calls Tryd.prog 18 #[.int .i64 n] w (ROut n w) := by
  have HR := hid (small_rp h)
  have hmk : ∀ w : World, (Instr.makeSlice 32 (.int .i64 16) (.int .i64 16)).run Tryd.prog w = .ok (.slice (some ⟨w.heap.size, 0, none⟩) 16 16) (w.alloc (.cells (ints .i64 (nl (List.replicate 16 0))).toArray 3)) := fun w => make28 16 (by omega) w
  have hO := Owns.new w w.heap.size 3 .i64 (nl (List.replicate 16 0)) (Nat.le_refl _) (by rw [nl_length]; simp [maxLen])
  have e : ((nl (List.replicate 16 0)).map (Value.int .i64)).toArray = (ints .i64 (nl (List.replicate 16 0))).toArray := rfl
  rw [e] at hO
  have hb := below_new w (.cells (ints .i64 (nl (List.replicate 16 0))).toArray 3)
  have hl : (nl (List.replicate 16 0)).length = 16 := by rw [nl_length]; simp
  rw [hl] at hO
  obtain ⟨x, c0, f0, _⟩ := hO.spot (j := 0) (by rw [hl]; omega)
  have hO2 := Owns.new w w.heap.size 3 .i64 (nl ((List.replicate 16 0).set 0 n)) (Nat.le_refl _) (by rw [nl_length]; simp [maxLen])
  have e2 : ((nl ((List.replicate 16 0).set 0 n)).map (Value.int .i64)).toArray = (ints .i64 (nl (List.replicate 16 0))).toArray.setIfInBounds 0 (.int .i64 (n : Int)) := by
    rw [← nl_set]; simp [ints]
  have hl2 : (nl ((List.replicate 16 0).set 0 n)).length = 16 := by rw [nl_length]; simp
  rw [e2, hl2] at hO2
  have HO := hid hO2
  have hb2 := below_new w (.cells ((ints .i64 (nl (List.replicate 16 0))).toArray.setIfInBounds 0 (.int .i64 (n : Int))) 3)
  have HB := hid hb2
  clear hl e e2 hl2 hO hO2 hb hb2
  go_enter Tryd.func18, Tryd.ntmps18
  generalize hZ : (ints .i64 (nl (List.replicate 16 0))).toArray = Z at *
  go_wp2
  go_ret
  exact ROut.mk HR.out HO.out.fresh HB.out
theorem rzero_walk {A : Option Addr} {cA m : Nat} {a : List Nat} {w : World} (ha : Rp a m) (hA : Nums w .i64 A (nl a)) : Calls Tryd.prog 23 #[.slice A 16 cA] w fun e w' => e = .returned (.bool (decide (m = 0))) ∧ Below w.heap.size w w' := by
  have HA := hid ha
  clear ha
  obtain ⟨x, hx⟩ : ∃ x : Bool, x = decide (m = 0) := ⟨_, rfl⟩
  rw [← hx]
  have HX := hid hx
  clear hx
  have c1 : Calls Tryd.prog 18 #[.int .i64 0] w (ROut 0 w) := rsmall_out 0 (by omega) w
  have C1 := hid c1
  clear c1
  go_enter Tryd.func23, Tryd.ntmps23
  go_wp2_with (fail)
  refine C1.out.mono ?_
  rintro e w1 ⟨B, c, ys, rfl, HY, hN, hb⟩
  go_wp2_with (fail)
  refine (rsame_walk HA.out HY.out (hA.below hb) hN.nums).mono ?_
  rw [← HX.out]
  rintro e w2 ⟨rfl, hb2⟩
  go_wp2
  go_ret
  exact ⟨rfl, hb.trans (hb2.mono hb.size)⟩
theorem sub_mod {m n : Nat} (hn : n < NT.PN) (h : ¬ n ≤ m) : NT.PN - (n - m) = (m + NT.PN - n) % NT.PN := by
  rw [Nat.mod_eq_of_lt (by omega)]; omega
theorem sub_mod' {m n : Nat} (hm : m < NT.PN) (h : n ≤ m) : m - n = (m + NT.PN - n) % NT.PN := by
  rw [show m + NT.PN - n = (m - n) + NT.PN by omega, Nat.add_mod_right, Nat.mod_eq_of_lt (by omega)]
set_option maxHeartbeats 400000 in
theorem rsub_walk {A B : Option Addr} {cA cB m n : Nat} {a b : List Nat} {w : World} (ha : Rp a m) (hb : Rp b n) (hm : m < NT.PN) (hn : n < NT.PN) (hA : Nums w .i64 A (nl a)) (hB : Nums w .i64 B (nl b)) : Calls Tryd.prog 17 #[.slice A 16 cA, .slice B 16 cB] w (ROut ((m + NT.PN - n) % NT.PN) w) := by
  have HA := hid ha
  have HB := hid hb
  have HM := hid (And.intro hm hn)
  have c1 := ral_out (cA := cA) (cB := cB) ha hb hA hB
  clear ha hb hm hn
  by_cases hle : n ≤ m
  · rw [decide_eq_true hle] at c1
    have C1 := hid c1
    have HE := hid (sub_mod' HM.out.1 hle)
    have HLE := hid hle
    clear c1 hle
    rw [← HE.out]
    go_enter Tryd.func17, Tryd.ntmps17
    go_wp2_with (fail)
    refine C1.out.mono ?_
    rintro e w1 ⟨rfl, hb1⟩
    go_wp2_with (fail)
    refine (rless_out HA.out HB.out HLE.out (hA.below hb1) (hB.below hb1)).mono ?_
    rintro e w2 ⟨R, c, ys, rfl, HY, hN, hb2⟩
    go_wp2
    go_ret
    exact ROut.mk HY.out (hN.less hb1.size) (hb1.trans (hb2.mono hb1.size))
  · rw [decide_eq_false hle] at c1
    have C1 := hid c1
    have HE := hid (sub_mod HM.out.2 hle)
    have HLE := hid hle
    have HLP : Hid (n - m ≤ NT.PN) := hid (by have := HM.out.2; omega)
    clear c1 hle
    rw [← HE.out]
    go_enter Tryd.func17, Tryd.ntmps17
    go_wp2_with (fail)
    refine C1.out.mono ?_
    rintro e w1 ⟨rfl, hb1⟩
    go_wp2_with (fail)
    refine (rp_out _).mono ?_
    rintro e w2 ⟨R, c, ys, rfl, HY, hN, hb2⟩
    replace hb2 := hb1.trans (hb2.mono hb1.size)
    go_wp2_with (fail)
    refine (rless_out HB.out HA.out (Nat.le_of_not_le HLE.out) (hB.below hb2) (hA.below hb2)).mono ?_
    rintro e w3 ⟨R3, c3, ys3, rfl, HY3, hN3, hb3⟩
    go_wp2_with (fail)
    refine (rless_out HY.out HY3.out HLP.out (hN.stay hb3).nums hN3.nums).mono ?_
    rintro e w4 ⟨R4, c4, ys4, rfl, HY4, hN4, hb4⟩
    go_wp2
    go_ret
    have h3 := hb2.trans (hb3.mono hb2.size)
    exact ROut.mk HY4.out (hN4.less h3.size) (h3.trans (hb4.mono h3.size))
end Go.Proofs.YtpaopdjbhmdfjaaDoor

/- The reference's sum, its bytes, and its numbers of bytes. -/
namespace Go.Proofs.YtpaopdjbhmdfjaaDoor
open Go.RowKit

/-- What has been added, digit by digit. -/
def SumI (l m ys : List Nat) (cy k : Nat) : Prop := ys.length = k ∧ Digs ys ∧ cy ≤ 1 ∧ dv ys + cy * 65536 ^ k = dv (l.take k) + dv (m.take k)
theorem SumI.step {l m ys : List Nat} {cy k : Nat} (h : SumI l m ys cy k) (h1 : k < l.length) (h2 : k < m.length) (dl : Digs l) (dm : Digs m) : SumI l m (ys ++ [(l.getD k 0 + m.getD k 0 + cy) % 65536]) ((l.getD k 0 + m.getD k 0 + cy) / 65536) (k + 1) := by
  obtain ⟨a, b, c, e⟩ := h
  have g1 : l[k]? = some (l.getD k 0) := by rw [List.getD_eq_getElem?_getD, List.getElem?_eq_getElem h1]; rfl
  have g2 : m[k]? = some (m.getD k 0) := by rw [List.getD_eq_getElem?_getD, List.getElem?_eq_getElem h2]; rfl
  have hx := getD_dig dl k
  have hy := getD_dig dm k
  refine ⟨by simp [a], digs_snoc b (Nat.mod_lt _ (by omega)), by omega, ?_⟩
  rw [dv_snoc, a, dv_take_succ l k _ g1, dv_take_succ m k _ g2, Nat.pow_succ]
  generalize l.getD k 0 = x at *
  generalize m.getD k 0 = y at *
  have hdm := Nat.div_add_mod (x + y + cy) 65536
  generalize (x + y + cy) % 65536 = r at *
  generalize (x + y + cy) / 65536 = q at *
  generalize 65536 ^ k = P at *
  have h3 : (65536 * q + r) * P = (x + y + cy) * P := by rw [hdm]
  have h4 : q * (P * 65536) = 65536 * q * P := by rw [Nat.mul_comm P, ← Nat.mul_assoc, Nat.mul_comm q]
  rw [Nat.add_mul, Nat.add_mul, Nat.add_mul] at h3
  rw [h4]
  omega
set_option maxRecDepth 4000 in
set_option maxHeartbeats 1000000 in
theorem radd_walk {A B : Option Addr} {cA cB m n : Nat} {a b : List Nat} {w : World} (ha : Rp a m) (hb : Rp b n) (hA : Nums w .i64 A (nl a)) (hB : Nums w .i64 B (nl b)) : Calls Tryd.prog 20 #[.slice A 16 cA, .slice B 16 cB] w (ROut ((m + n) % NT.PN) w) := by
  have HA := hid ha
  have HB := hid hb
  clear ha hb
  go_enter Tryd.func20, Tryd.ntmps20
  go_wp2
  go_loopw [5, 6, 7] (fun v b' i wr => ∃ (k : Nat) (ys : List Nat) (cy : Nat) (R : Option Addr) (n c : Nat), k ≤ 16 ∧ v = .slice R n c ∧ b' = .int .i64 cy ∧ i = .int .i64 k ∧ Hid (SumI a b ys cy k) ∧ Owns wr w.heap.size 3 .i64 (.slice R n c) (nl ys) ∧ Below w.heap.size w wr) (fun _ _ i _ => 16 - (intOf i).toNat)
  case atStart => exact ⟨0, [], 0, none, 0, 0, Nat.zero_le _, rfl, rfl, rfl, hid ⟨rfl, fun v hv => by simp at hv, by omega, by simp [dv]⟩, Owns.none_ _ _ _ _, Below.refl _ _⟩
  case round =>
    obtain ⟨k, ys, cy, R, n', c, hk, rfl, rfl, rfl, HI, hO, hbl⟩ := hrel
    have hsz := hbl.size
    have HY : Hid ((nl ys).length = k) := hid (by rw [nl_length]; exact HI.out.1)
    have hcy := HI.out.2.2.1
    by_cases hlt : k < 16
    · have hil : k < a.length := by rw [HA.out.1]; omega
      have him : k < b.length := by rw [HB.out.1]; omega
      obtain ⟨g, o, rfl, _, cA0⟩ := (hA.below hbl).num (by rw [nl_length, HA.out.1]; omega)
      obtain ⟨g2, o2, rfl, _, cB0⟩ := (hB.below hbl).num (by rw [nl_length, HB.out.1]; omega)
      have cl := cA0 k _ (nl_at hil)
      have cm := cB0 k _ (nl_at him)
      have hx := getD_dig HA.out.2.1 k
      have hy := getD_dig HB.out.2.1 k
      have HS := hid (HI.out.step hil him HA.out.2.1 HB.out.2.1)
      clear cA0 cB0 hil him
      generalize a.getD k 0 = x at *
      generalize b.getD k 0 = y at *
      have k0 : (0 : Int) ≤ k := by omega
      have k1 : (k : Int) < 16 := by omega
      obtain ⟨t, ht⟩ : ∃ t, t = x + y + cy := ⟨_, rfl⟩
      have w1 : IntKind.i64.wrap ((x : Int) + y) = (x : Int) + y := IntWalk.i64_in _ (by omega)
      have w2 : IntKind.i64.wrap ((x : Int) + y + cy) = t := by rw [IntWalk.i64_in _ (by omega)]; omega
      have htl : t < 200000 := by omega
      rw [← ht] at HS
      clear ht
      have e1 : ((t % 65536 : Nat) : Int) = (t : Int) % 65536 := by omega
      have e2 : Value.int .i64 ((t : Int) / 65536) = Value.int .i64 ((t / 65536 : Nat) : Int) := by congr 1
      have E1 := hid e1
      have E2 := hid e2
      clear e1 e2
      go_wp2
      go_quiet (fail)
      clear w1 w2
      go_wp2_with (at_builtin; refine app_one _ rfl (.tmp 24) (.tmp 27) 32 rfl w.heap.size 3 .i64 8 Tryd.underlying32 Tryd.info3 R n' c (nl ys) rfl (hO.drewN _) _ 1 rfl (by rw [HY.out]; omega) (by omega) (by simpa using hsz) ?_; intro A' n2 c' w2 hO2 hb2)
      go_roundw
      case rel => exact ⟨k + 1, _, t / 65536, A', n2, c', by omega, rfl, E2.out, by go_num, HS, by rw [← nl_snoc, E1.out]; exact hO2, (below_drewN hbl nq).trans hb2⟩
      case measure => simp [intOf]; omega
    · have e : k = 16 := by omega
      subst e
      have HE : Hid (dv (ys ++ [cy]) = m + n) := hid (by
        have h := HI.out.2.2.2
        rw [List.take_of_length_le (by rw [HA.out.1]; omega), List.take_of_length_le (by rw [HB.out.1]; omega), HA.out.2.2, HB.out.2.2] at h
        rw [dv_snoc, HI.out.1]; exact h)
      go_wp2_with (at_builtin; refine app_one _ rfl (.tmp 31) (.tmp 33) 32 rfl w.heap.size 3 .i64 8 Tryd.underlying32 Tryd.info3 R n' c (nl ys) rfl hO _ 1 rfl (by rw [HY.out]; omega) (by omega) hsz ?_; intro A' n2 c' w2 hO2 hb2)
      rw [nl_snoc] at hO2
      have hn2 := hO2.len
      rw [nl_length, List.length_append, HI.out.1] at hn2
      subst hn2
      replace hb2 := hbl.trans hb2
      refine (rmod_out A' c' 17 (m + n) (ys ++ [cy]) _ (by simp [HI.out.1]) (by omega) (by omega) (digs_snoc HI.out.2.1 (by omega)) hO2.nums HE.out).mono ?_
      rintro e3 w3 ⟨A3, c3, ys3, rfl, HY3, hN3, hb3⟩
      go_wp2
      go_ret
      exact ROut.mk HY3.out (hN3.less hb2.size) (hb2.trans (hb3.mono hb2.size))
end Go.Proofs.YtpaopdjbhmdfjaaDoor
