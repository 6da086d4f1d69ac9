/- The document's fuse. -/
import Derived.Test.YtdfalneiapeegaaJState
namespace Go.Proofs.Ytdfalneiapeegaa
open Go Go.RowKit Go.Maps

section
variable {B : Nat → Prop} {w : World} {q n : Nat} {AK : Option Addr} {cK : Nat} {AW : Option Addr} {cW : Nat} {ps ws : List Value} {K : List (List Int)} {W : List (Nat × List Int)} {f : Int} {off : Bool} {li : Int}
set_option maxHeartbeats 2000000 in
theorem rburn_none (hT : RT B w q n AK cK AW cW ps ws K W (-1) off li) :
    Calls Try.prog 38 #[.pointer (some ⟨q, 0, none⟩)] w fun e w' => e = .returned (.bool off) ∧ w = w' := by
  have c2 := hT.blk.cell (i := 2) rfl
  have c3 := hT.blk.cell (i := 3) rfl
  clear hT
  go_enter Try.func38, Try.ntmps38
  go_wp2
  go_ret
  exact ⟨rfl, rfl⟩
set_option maxHeartbeats 2000000 in
theorem rburn_zero (hT : RT B w q n AK cK AW cW ps ws K W 0 off li) :
    Calls Try.prog 38 #[.pointer (some ⟨q, 0, none⟩)] w fun e w' => e = .returned (.bool true) ∧ w' = (w.setCell ⟨q, 3, none⟩ (.bool true)).setCell ⟨q, 2, none⟩ (.int .i64 (-1)) := by
  have c2 := hT.blk.cell (i := 2) rfl
  have c3 := hT.blk.cell (i := 3) rfl
  have x3 := hT.blk.free 3
  have hB := hT.blk.set 3 (.bool true)
  obtain ⟨W1, hW1⟩ : ∃ W1, w.setCell ⟨q, 3, none⟩ (.bool true) = W1 := ⟨_, rfl⟩
  rw [hW1] at hB ⊢
  have d2 := hB.cell (i := 2) rfl
  have d3 := hB.cell (i := 3) rfl
  have y2 := hB.free 2
  obtain ⟨W2, hW2⟩ : ∃ W2, W1.setCell ⟨q, 2, none⟩ (.int .i64 (-1)) = W2 := ⟨_, rfl⟩
  have hB2 := hB.set 2 (.int .i64 (-1))
  rw [hW2] at hB2 ⊢
  have e3 := hB2.cell (i := 3) rfl
  have HW1 := hid hW1
  have HW2 := hid hW2
  clear hT hB hW1 hW2 hB2
  go_enter Try.func38, Try.ntmps38
  go_upto_region 3 with (fail)
  rw [HW1.out]
  clear c2 c3 x3 HW1
  go_upto_region 5 with (fail)
  rw [HW2.out]
  clear d2 d3 y2 HW2
  go_wp2
  go_ret
  exact ⟨rfl, rfl⟩
set_option maxHeartbeats 2000000 in
theorem rburn_pos (hT : RT B w q n AK cK AW cW ps ws K W f off li) (h0 : 0 < f) (h9 : f ≤ 9223372036854775807) :
    Calls Try.prog 38 #[.pointer (some ⟨q, 0, none⟩)] w fun e w' => e = .returned (.bool off) ∧ w' = w.setCell ⟨q, 2, none⟩ (.int .i64 (f - 1)) := by
  have c2 := hT.blk.cell (i := 2) rfl
  have c3 := hT.blk.cell (i := 3) rfl
  have x2 := hT.blk.free 2
  have e2 : (f == 0) = false := beq_false_of_ne (by omega)
  have e3 : decide (f < 0) = false := decide_eq_false (by omega)
  have e4 : ¬ f < 0 := by omega
  have hw : IntKind.i64.wrap (f - 1) = f - 1 := IntWalk.i64_in _ ⟨by omega, by omega⟩
  obtain ⟨W2, hW2⟩ : ∃ W2, w.setCell ⟨q, 2, none⟩ (.int .i64 (f - 1)) = W2 := ⟨_, rfl⟩
  have hB2 := hT.blk.set 2 (.int .i64 (f - 1))
  rw [hW2] at hB2 ⊢
  have d3 := hB2.cell (i := 3) rfl
  have HW2 := hid hW2
  clear hT h0 h9 hB2 hW2
  go_enter Try.func38, Try.ntmps38
  go_upto_region 5 with (fail)
  rw [HW2.out]
  clear c2 c3 x2 HW2
  go_wp2
  go_ret
  exact ⟨rfl, rfl⟩
theorem rburn_any {fu : Int} (hT : RT B w q n AK cK AW cW ps ws K W f false li) (hf : f = fu) (h0 : -1 ≤ fu) (h9 : fu ≤ 9223372036854775807) :
    Calls Try.prog 38 #[.pointer (some ⟨q, 0, none⟩)] w fun e w' => e = .returned (.bool (burnD ⟨K, W, fu, false, li⟩).off) ∧ (∃ f', RT B w' q n AK cK AW cW ps ws K W f' (burnD ⟨K, W, fu, false, li⟩).off li ∧ ((burnD ⟨K, W, fu, false, li⟩).off = false → f' = (burnD ⟨K, W, fu, false, li⟩).fu)) ∧ Chg (fun b => b = q) w w' := by
  subst hf
  have hc := Chg.refl (fun b => b = q) w
  by_cases h1 : f = -1
  · subst h1
    exact (rburn_none hT).mono fun e w' ⟨he, hw⟩ => by
      subst hw
      exact ⟨he, ⟨-1, hT, fun _ => rfl⟩, hc⟩
  · by_cases h2 : f = 0
    · subst h2
      exact (rburn_zero hT).mono fun e w' ⟨he, hw⟩ => by
        subst hw
        exact ⟨he, ⟨-1, (hT.cell 3 (.bool true) (f' := 0) (off' := true) (li' := li) rfl).cell 2 (.int .i64 (-1)) rfl, fun h => by cases h⟩, (hc.setCell (p := ⟨q, 3, none⟩) (.inl rfl) (.bool true)).setCell (p := ⟨q, 2, none⟩) (.inl rfl) (.int .i64 (-1))⟩
    · have h3 : 0 < f := by omega
      refine (rburn_pos hT h3 h9).mono fun e w' ⟨he, hw⟩ => ?_
      subst hw
      have e2 : burnD ⟨K, W, f, false, li⟩ = ⟨K, W, f - 1, false, li⟩ := by
        unfold burnD
        rw [if_neg h2, if_pos h3]
      rw [e2]
      exact ⟨he, ⟨f - 1, hT.cell 2 (.int .i64 (f - 1)) rfl, fun _ => rfl⟩, hc.setCell (p := ⟨q, 2, none⟩) (.inl rfl) (.int .i64 (f - 1))⟩
end
theorem burn_off (D : DK) (h : D.off = false) : (burnD D).off = true ↔ D.fu = 0 := by
  unfold burnD
  split
  · rename_i h1; simp [h1]
  · rename_i h1
    split <;> simp [h, h1]
theorem burn_err (D : DK) (h : D.off = false) : errB D = if (burnD D).off = true then 30 else 0 := by
  unfold errB
  by_cases h1 : D.fu = 0
  · rw [if_pos h1, if_pos ((burn_off D h).2 h1)]
  · rw [if_neg h1, if_neg (fun e => h1 ((burn_off D h).1 e))]
set_option maxHeartbeats 2000000 in
theorem rfused_any (F B : Nat → Prop) (q : Nat) (D : DK) (n : Int) (w : World) (h : RS F B w q D) :
    Calls Try.prog 29 #[.pointer (some ⟨q, 0, none⟩), .int .i64 n] w fun e w' => e = .returned (.tuple #[]) ∧ RSn F B w w' q (fuseD D n) ∧ Chg F w w' := by
  obtain ⟨AK, cK, AW, cW, ps, ws, f, hT, hf, h1, h2⟩ := h
  have c2 := hT.blk.cell (i := 2) rfl
  have x2 := hT.blk.free 2
  have hT1 := hT.cell 2 (.int .i64 n) (f' := n) (off' := D.off) (li' := D.li) rfl
  have hC1 := (Chg.refl F w).setCell (p := ⟨q, 2, none⟩) (.inl (h1 _ (.inl rfl))) (.int .i64 n)
  obtain ⟨W1, hW1⟩ : ∃ W1, w.setCell ⟨q, 2, none⟩ (.int .i64 n) = W1 := ⟨_, rfl⟩
  rw [hW1] at hT1 hC1
  have HW1 := hid hW1
  have d2 := hT1.blk.cell (i := 2) rfl
  have y2 := hT1.blk.free 2
  have H1 := hid h1
  have H2 := hid h2
  by_cases hn : n < 0
  · have en : decide (n < 0) = true := decide_eq_true hn
    have hT2 := hT1.cell 2 (.int .i64 (-1)) (f' := -1) (off' := D.off) (li' := D.li) rfl
    have HC2 := hid (hC1.setCell (p := ⟨q, 2, none⟩) (.inl (h1 _ (.inl rfl))) (.int .i64 (-1)))
    have HT2 := hid hT2
    have Hn := hid hn
    clear hT hf h1 h2 hT1 hC1 hW1 hT2 hn
    go_enter Try.func29, Try.ntmps29
    go_upto_region 1 with (fail)
    rw [HW1.out]
    clear c2 x2 HW1
    go_wp2
    first | (refine bodyPost_end (results_none rfl _ _ _) rfl ?_) | (refine bodyPost_ret (results_none rfl _ _ _) rfl ?_)
    exact ⟨rfl, RSn.mk' (D := fuseD D n) HT2.out (fun _ => (if_pos Hn.out).symm) (fun b hb => .inl (H1.out b hb)) (fun b hb => .inl hb), HC2.out⟩
  · have en : decide (n < 0) = false := decide_eq_false hn
    have HC1 := hid hC1
    have HT1 := hid hT1
    have Hn := hid hn
    clear hT hf h1 h2 hT1 hC1 hW1 hn
    go_enter Try.func29, Try.ntmps29
    go_upto_region 1 with (fail)
    rw [HW1.out]
    clear c2 x2 HW1
    go_wp2
    first | (refine bodyPost_end (results_none rfl _ _ _) rfl ?_) | (refine bodyPost_ret (results_none rfl _ _ _) rfl ?_)
    exact ⟨rfl, RSn.mk' (D := fuseD D n) HT1.out (fun _ => (if_neg (Int.not_lt.2 Hn.out)).symm) (fun b hb => .inl (H1.out b hb)) (fun b hb => .inl hb), HC1.out⟩
end Go.Proofs.Ytdfalneiapeegaa
