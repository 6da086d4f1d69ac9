/- The reference's small numbers, sums, differences, comparisons. -/
import Derived.Test.YtoncinbohfmciaaRMod
namespace Go.Proofs.Ytoncinbohfmciaa
open Go.RowKit

/-- Sixteen digits of a number. -/
def Rp (l : List Nat) (n : Nat) : Prop := l.length = 16 ∧ Digs l ∧ dv l = n
/-- A call returns new digits of a number. -/
def ROut (n : Nat) (w : World) (e : Ending) (w' : World) : Prop := ∃ A c ys, e = .returned (.slice A 16 c) ∧ Hid (Rp ys n) ∧ NumsF w.heap.size w' .i64 A (nl ys) ∧ Below w.heap.size w w'
theorem ROut.mk {n : Nat} {w w' : World} {A : Option Addr} {c : Nat} {ys : List Nat} (h : Rp ys n) (hN : NumsF w.heap.size w' .i64 A (nl ys)) (hb : Below w.heap.size w w') : ROut n w (.returned (.slice A 16 c)) w' := ⟨A, c, ys, rfl, h, hN, hb⟩
theorem pd_rp : Rp PD NT.PN := ⟨by decide, pd_digs, by decide⟩
theorem rp_out (w : World) : Calls Try.prog 21 #[] w (ROut NT.PN w) := (rp_any w).mono fun _ _ ⟨A, c, he, hN, hb⟩ => ⟨A, c, PD, he, pd_rp, hN, hb⟩
theorem rmod_out (A : Option Addr) (cA L n : Nat) (l : List Nat) (w : World) (hl : l.length = L) (hL1 : 16 ≤ L) (hn : L ≤ 50) (dl : Digs l) (hA : Nums w .i64 A (nl l)) (hv : dv l = n) : Calls Try.prog 30 #[.slice A L cA] w (ROut (n % NT.PN) w) := by
  subst hv
  exact (rmod_any A cA L l w hl hL1 hn dl hA).mono fun e w' ⟨A, c, ys, he, hy, hN, hb⟩ => ⟨A, c, ys, he, hy, hN, hb⟩
theorem rless_out {A B : Option Addr} {cA cB m n : Nat} {a b : List Nat} {w : World} (ha : Rp a m) (hb : Rp b n) (h : n ≤ m) (hA : Nums w .i64 A (nl a)) (hB : Nums w .i64 B (nl b)) : Calls Try.prog 20 #[.slice A 16 cA, .slice B 16 cB] w (ROut (m - n) w) :=
  (le_any A B cA cB 16 a b w ha.1 hb.1 (by omega) ha.2.1 hb.2.1 (by rw [ha.2.2, hb.2.2]; exact h) hA hB).mono fun e w' ⟨A, c, ys, he, hy, hN, hbl⟩ => ⟨A, c, ys, he, ⟨hy.1, hy.2.1, by rw [hy.2.2, ha.2.2, hb.2.2]⟩, hN, hbl⟩
theorem ral_out {A B : Option Addr} {cA cB m n : Nat} {a b : List Nat} {w : World} (ha : Rp a m) (hb : Rp b n) (hA : Nums w .i64 A (nl a)) (hB : Nums w .i64 B (nl b)) : Calls Try.prog 31 #[.slice A 16 cA, .slice B 16 cB] w fun e w' => e = .returned (.bool (decide (n ≤ m))) ∧ Below w.heap.size w w' :=
  (al_any A B cA cB 16 a b w ha.1 hb.1 (by omega) ha.2.1 hb.2.1 hA hB).mono fun e w' ⟨x, he, hy, hw⟩ => ⟨by rw [he, hy.out, ha.2.2, hb.2.2], hw.below⟩
theorem make28 (n : Nat) (h : n ≤ 1000) (w : World) : (Instr.makeSlice 32 (.int .i64 (n : Int)) (.int .i64 (n : Int))).run Try.prog w = .ok (.slice (some ⟨w.heap.size, 0, none⟩) n n) (w.alloc (.cells (ints .i64 (nl (List.replicate n 0))).toArray 3)) := by
  have hi := Try.info3
  cases hc : Try.prog.info? 3 with
  | none => rw [hc] at hi; simp at hi
  | some i =>
    rw [hc] at hi
    simp only [Option.map_some, Option.some.injEq, Prod.mk.injEq] at hi
    have h2 := run_make (P := Try.prog) w 32 3 i (.int .i64 0) (by kernel_rfl) hc hi.1 .i64 .i64 n n (by omega) (by omega) (by rw [hi.2.2]; omega) (by omega)
    rw [h2, hi.2.1]
    simp only [Int.toNat_natCast, Nat.mul_one]
    congr 3
    apply Array.toList_inj.1
    show (madeCells #[.int .i64 0] n).toList = _
    rw [toList_madeCells_one]
    simp [ints, nl]
theorem small_rp {n : Nat} (h : n < 65536) : Rp ((List.replicate 16 0).set 0 n) n := by
  refine ⟨by simp, set_digs (fun v hv => by have := List.eq_of_mem_replicate hv; omega) _ _ h, ?_⟩
  have e : (List.replicate 16 0).set 0 n = n :: List.replicate 15 0 := rfl
  have h0 := dv_zeros [] 15
  rw [List.nil_append] at h0
  rw [e, dv, h0]
  simp [dv]
set_option maxHeartbeats 400000 in
theorem rsmall_out (n : Nat) (h : n < 65536) (w : World) : Calls Try.prog 14 #[.int .i64 n] w (ROut n w) := by
  have HR := hid (small_rp h)
  have hmk : ∀ w : World, (Instr.makeSlice 32 (.int .i64 16) (.int .i64 16)).run Try.prog w = .ok (.slice (some ⟨w.heap.size, 0, none⟩) 16 16) (w.alloc (.cells (ints .i64 (nl (List.replicate 16 0))).toArray 3)) := fun w => make28 16 (by omega) w
  have hO := Owns.new w w.heap.size 3 .i64 (nl (List.replicate 16 0)) (Nat.le_refl _) (by rw [nl_length]; simp [maxLen])
  have e : ((nl (List.replicate 16 0)).map (Value.int .i64)).toArray = (ints .i64 (nl (List.replicate 16 0))).toArray := rfl
  rw [e] at hO
  have hb := below_new w (.cells (ints .i64 (nl (List.replicate 16 0))).toArray 3)
  have hl : (nl (List.replicate 16 0)).length = 16 := by rw [nl_length]; simp
  rw [hl] at hO
  obtain ⟨x, c0, f0, _⟩ := hO.spot (j := 0) (by rw [hl]; omega)
  have hO2 := Owns.new w w.heap.size 3 .i64 (nl ((List.replicate 16 0).set 0 n)) (Nat.le_refl _) (by rw [nl_length]; simp [maxLen])
  have e2 : ((nl ((List.replicate 16 0).set 0 n)).map (Value.int .i64)).toArray = (ints .i64 (nl (List.replicate 16 0))).toArray.setIfInBounds 0 (.int .i64 (n : Int)) := by
    rw [← nl_set]; simp [ints]
  have hl2 : (nl ((List.replicate 16 0).set 0 n)).length = 16 := by rw [nl_length]; simp
  rw [e2, hl2] at hO2
  have HO := hid hO2
  have hb2 := below_new w (.cells ((ints .i64 (nl (List.replicate 16 0))).toArray.setIfInBounds 0 (.int .i64 (n : Int))) 3)
  have HB := hid hb2
  clear hl e e2 hl2 hO hO2 hb hb2
  go_enter Try.func14, Try.ntmps14
  generalize hZ : (ints .i64 (nl (List.replicate 16 0))).toArray = Z at *
  go_wp2
  go_ret
  exact ROut.mk HR.out HO.out.fresh HB.out
theorem sub_mod {m n : Nat} (hn : n < NT.PN) (h : ¬ n ≤ m) : NT.PN - (n - m) = (m + NT.PN - n) % NT.PN := by
  rw [Nat.mod_eq_of_lt (by omega)]; omega
theorem sub_mod' {m n : Nat} (hm : m < NT.PN) (h : n ≤ m) : m - n = (m + NT.PN - n) % NT.PN := by
  rw [show m + NT.PN - n = (m - n) + NT.PN by omega, Nat.add_mod_right, Nat.mod_eq_of_lt (by omega)]
set_option maxHeartbeats 400000 in
theorem rsub_walk {A B : Option Addr} {cA cB m n : Nat} {a b : List Nat} {w : World} (ha : Rp a m) (hb : Rp b n) (hm : m < NT.PN) (hn : n < NT.PN) (hA : Nums w .i64 A (nl a)) (hB : Nums w .i64 B (nl b)) : Calls Try.prog 16 #[.slice A 16 cA, .slice B 16 cB] w (ROut ((m + NT.PN - n) % NT.PN) w) := by
  have HA := hid ha
  have HB := hid hb
  have HM := hid (And.intro hm hn)
  have c1 := ral_out (cA := cA) (cB := cB) ha hb hA hB
  clear ha hb hm hn
  by_cases hle : n ≤ m
  · rw [decide_eq_true hle] at c1
    have C1 := hid c1
    have HE := hid (sub_mod' HM.out.1 hle)
    have HLE := hid hle
    clear c1 hle
    rw [← HE.out]
    go_enter Try.func16, Try.ntmps16
    go_wp2_with (fail)
    refine C1.out.mono ?_
    rintro e w1 ⟨rfl, hb1⟩
    go_wp2_with (fail)
    refine (rless_out HA.out HB.out HLE.out (hA.below hb1) (hB.below hb1)).mono ?_
    rintro e w2 ⟨R, c, ys, rfl, HY, hN, hb2⟩
    go_wp2
    go_ret
    exact ROut.mk HY.out (hN.less hb1.size) (hb1.trans (hb2.mono hb1.size))
  · rw [decide_eq_false hle] at c1
    have C1 := hid c1
    have HE := hid (sub_mod HM.out.2 hle)
    have HLE := hid hle
    have HLP : Hid (n - m ≤ NT.PN) := hid (by have := HM.out.2; omega)
    clear c1 hle
    rw [← HE.out]
    go_enter Try.func16, Try.ntmps16
    go_wp2_with (fail)
    refine C1.out.mono ?_
    rintro e w1 ⟨rfl, hb1⟩
    go_wp2_with (fail)
    refine (rp_out _).mono ?_
    rintro e w2 ⟨R, c, ys, rfl, HY, hN, hb2⟩
    replace hb2 := hb1.trans (hb2.mono hb1.size)
    go_wp2_with (fail)
    refine (rless_out HB.out HA.out (Nat.le_of_not_le HLE.out) (hB.below hb2) (hA.below hb2)).mono ?_
    rintro e w3 ⟨R3, c3, ys3, rfl, HY3, hN3, hb3⟩
    go_wp2_with (fail)
    refine (rless_out HY.out HY3.out HLP.out (hN.stay hb3).nums hN3.nums).mono ?_
    rintro e w4 ⟨R4, c4, ys4, rfl, HY4, hN4, hb4⟩
    go_wp2
    go_ret
    have h3 := hb2.trans (hb3.mono hb2.size)
    exact ROut.mk HY4.out (hN4.less h3.size) (h3.trans (hb4.mono h3.size))
end Go.Proofs.Ytoncinbohfmciaa
