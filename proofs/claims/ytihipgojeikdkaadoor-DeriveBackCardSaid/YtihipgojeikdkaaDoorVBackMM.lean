/- Some steps: the law of states. -/
import Derived.Test.YtihipgojeikdkaaDoorG8
namespace Go.Proofs.YtihipgojeikdkaaDoor
open Go Go.RowKit

set_option maxRecDepth 50000 in
set_option maxHeartbeats 4000000 in
theorem back_some_l (st sN : List Int) (n : Nat) (k : Int) (w : World) (hT : TabsH w) (HSL : Hid (st.length = 32)) (hby : HByt st) (hn1 : 1 ≤ n) (hn40 : n ≤ 40) (h : k ≤ 40) (HSN : Hid (backV st n = sN)) (HNL : Hid (sN.length = 32)) : Calls Tryd.prog 5 #[.agg (ints .u8 st).toArray, .int .i64 n, .int .i64 k] w fun e w' => e = .returned (.bool true) ∧ Below w.heap.size w w' := by
  obtain ⟨z32, s32⟩ := zero_of_info infS32
  have h3 := Rw.new w (ints .u8 st) 30
  have hW := below_new w (.cells (ints .u8 st).toArray 30)
  have hTi := hT
  replace hT := hT.next hW
  have HL : Hid (∀ k, (backV st k).length = 32) := hid (backV_len HSL.out)
  have HB : Hid (∀ k, HByt (backV st k)) := hid (backV_byt hby)
  have en0 : decide ((40 : Int) < (n : Int)) = false := decide_eq_false (by omega)
  have en2 : decide ((n : Int) < 0) = false := decide_eq_false (by omega)
  have en3 : decide ((4096 : Int) < (n : Int)) = false := decide_eq_false (by omega)
  have enz : ((n : Int) == 0) = false := beq_false_of_ne (by omega)
  have e1 : (n : Int) - 1 = ((n - 1 : Nat) : Int) := by omega
  have i40 : (n : Int) ≤ 40 := by omega
  have w1n : IntKind.i64.wrap ((n - 1 : Nat) : Int) = ((n - 1 : Nat) : Int) := IntWalk.i64_in _ (by omega)
  have l1n : ¬ n ≤ n - 1 := by omega
  have ek0 : decide ((40 : Int) < k) = false := decide_eq_false (by omega)
  go_enter Tryd.func5, Tryd.ntmps5
  go_wp2_with (first
    | (go_at_call 6; generalize w.alloc (.cells (ints .u8 st).toArray 30) = w1 at *; refine (awake_any _ hT).mono ?_; rintro e w2 ⟨rfl, hb2⟩
       replace h3 := h3.next hb2
       replace hT := hT.next hb2
       replace hW := hW.trans (Below.mono hb2 hW.size)
       have r3 := h3.range
       clear hb2)
    | (with_reducible refine wpList_load_mid (op := ⟨some 34, .load 30 (.tmp 3), _, _, _, _⟩) rfl 30 (.tmp 3) rfl w.heap.size 0 rfl (ints .u8 st) _ r3 Tryd.underlying30 rfl (szV infS32 (il HSL.out)) ?_)
    | (go_at_call 14; clear r3; refine (back_any st n _ hT HSL.out hby (by omega)).mono ?_; rintro e w3 ⟨rfl, hb3⟩
       rw [HSN.out]
       have R7 := (Rw.new w3 (ints .u8 (hzeros 32)) 30).roomA (us := ints .u8 sN) ((il HNL.out).trans (il (hz_len 32)).symm)
       have h7 := (Rw.new w3 (ints .u8 (hzeros 32)) 30).storedA (us := ints .u8 sN) ((il HNL.out).trans (il (hz_len 32)).symm)
       have hb4 := hb3.trans (Below.mono (Below.setCells (below_new w3 (.cells (ints .u8 (hzeros 32)).toArray 30)) (Nat.le_refl _) 0 (ints .u8 sN).toArray.toList) hb3.size)
       replace h3 := h3.next hb4
       replace hT := hT.next hb4
       replace hW := hW.trans (Below.mono hb4 hW.size)
       have r3b := h3.range
       clear hb3 hb4)
    | (with_reducible refine wpList_store_mid (op := ⟨none, .store 30 (.tmp 7) (.tmp 37), _, _, _, _⟩) rfl 30 (.tmp 7) (.tmp 37) rfl w3.heap.size 0 (ints .u8 sN).toArray rfl rfl R7 (szA infS32 (il HNL.out)) (ints_all _ _) ?_
       generalize (w3.alloc (.cells (ints .u8 (hzeros 32)).toArray 30)).setCells w3.heap.size 0 (ints .u8 sN).toArray.toList = w5 at *
       generalize w3.heap.size = b7 at *
       clear R7)
    | (with_reducible refine wpList_load_mid (op := ⟨some 40, .load 30 (.tmp 3), _, _, _, _⟩) rfl 30 (.tmp 3) rfl w.heap.size 0 rfl (ints .u8 st) _ r3b Tryd.underlying30 rfl (szV infS32 (il HSL.out)) ?_)
    | (go_at_call 15; clear r3b; refine (chain_any st n _ hT HSL.out hby hn1 (by omega)).mono ?_; rintro e w4 ⟨gc, rfl, hK, hb5⟩
       replace h3 := h3.next hb5
       replace h7 := h7.next hb5
       replace hT := hT.next hb5
       replace hW := hW.trans (Below.mono hb5 hW.size)
       have r3c := h3.range
       have n3 : w.heap.size ≠ w4.heap.size := Nat.ne_of_lt (h3.lt (by rw [ints_length, HSL.out]; omega))
       have n7 : b7 ≠ w4.heap.size := Nat.ne_of_lt (h7.lt (by rw [ints_length, HNL.out]; omega))
       have ng : gc ≠ w4.heap.size := Nat.ne_of_lt ((hK 0 (Nat.le_refl _) (by omega)).lt (by rw [ints_length, HL.out]; omega))
       have hn4 := below_new w4 (.cells (ints .u8 (hzeros 32)).toArray 30)
       have R11 := (Rw.new w4 (ints .u8 (hzeros 32)) 30).roomA (us := ints .u8 st) ((il HSL.out).trans (il (hz_len 32)).symm)
       have h11 := (Rw.new w4 (ints .u8 (hzeros 32)) 30).storedA (us := ints .u8 st) ((il HSL.out).trans (il (hz_len 32)).symm)
       have hb6 := Below.setCells hn4 (Nat.le_refl _) 0 (ints .u8 st).toArray.toList
       have hlo : w.heap.size ≤ w4.heap.size := hW.size
       replace h3 := h3.next hb6
       replace h7 := h7.next hb6
       replace hK := hK.next hb6
       replace hT := hT.next hb6
       replace hW := hW.trans (Below.mono hb6 hW.size)
       clear hb5 hb6 hn4)
    | (with_reducible refine wpList_load_mid (op := ⟨some 67, .load 30 (.tmp 3), _, _, _, _⟩) rfl 30 (.tmp 3) rfl w.heap.size 0 rfl (ints .u8 st) _ r3c Tryd.underlying30 rfl (szV infS32 (il HSL.out)) ?_)
    | (with_reducible refine wpList_store_mid (op := ⟨none, .store 30 (.tmp 11) (.tmp 67), _, _, _, _⟩) rfl 30 (.tmp 11) (.tmp 67) rfl w4.heap.size 0 (ints .u8 st).toArray rfl rfl R11 (szA infS32 (il HSL.out)) (ints_all _ _) ?_
       generalize (w4.alloc (.cells (ints .u8 (hzeros 32)).toArray 30)).setCells w4.heap.size 0 (ints .u8 st).toArray.toList = w9 at *
       generalize w4.heap.size = b11 at *
       clear R11 r3c))
  go_loopw [69] (fun i wr => ∃ j : Nat, j ≤ n ∧ i = .int .i64 j ∧ Only b11 w9 wr ∧ Rw wr b11 0 (ints .u8 (backV st j))) (fun i _ => n - (intOf i).toNat)
  case atStart => exact ⟨0, Nat.zero_le _, rfl, Only.refl _ _, h11⟩
  case round =>
    clear h11
    obtain ⟨j, hj, rfl, hO, h11⟩ := hrel
    by_cases hlt : j < n
    · have j1 : (j : Int) < n := by omega
      obtain ⟨x, hx⟩ : ∃ x, backV st j = x := ⟨_, rfl⟩
      obtain ⟨y, hy⟩ : ∃ y, backV st (j + 1) = y := ⟨_, rfl⟩
      have HXL : Hid (x.length = 32) := hid (by rw [← hx]; exact HL.out j)
      have HYL : Hid (y.length = 32) := hid (by rw [← hy]; exact HL.out (j + 1))
      have HN : Hid (∀ w : World, Calls Tryd.prog 13 #[.agg (ints .u8 x).toArray] w fun e w' => e = .returned (.agg (ints .u8 y).toArray) ∧ Below w.heap.size w w') := hid fun w => by
        have h := rnext_any x w HXL.out (by rw [← hx]; exact HB.out j)
        have e : nextV x = y := by rw [← hx, ← hy]; rfl
        rw [e] at h
        exact h
      rw [hx] at h11
      have HY := hid hy
      have r11 := h11.range
      clear hx hy
      go_wp2_with (first
        | (with_reducible refine wpList_load_mid (op := ⟨some 71, .load 30 (.tmp 11), _, _, _, _⟩) rfl 30 (.tmp 11) rfl b11 0 rfl (ints .u8 x) _ r11 Tryd.underlying30 rfl (szV infS32 (il HXL.out)) ?_)
        | (go_at_call 13; refine (HN.out _).mono ?_; rintro e w10 ⟨rfl, hb10⟩
           replace h11 := h11.next hb10
           have R11 := h11.roomA (us := ints .u8 y) ((il HYL.out).trans (il HXL.out).symm)
           have X11 := h11.storedA (us := ints .u8 y) ((il HYL.out).trans (il HXL.out).symm)
           have hO2 := (hO.trans (Only.of hb10 b11)).setCells (.inl rfl) 0 (ints .u8 y).toArray.toList
           clear hb10 h11 hO r11)
        | (with_reducible refine wpList_store_mid (op := ⟨none, .store 30 (.tmp 11) (.tmp 72), _, _, _, _⟩) rfl 30 (.tmp 11) (.tmp 72) rfl b11 0 (ints .u8 y).toArray rfl rfl R11 (szA infS32 (il HYL.out)) (ints_all _ _) ?_
           clear R11
           generalize w10.setCells b11 0 (ints .u8 y).toArray.toList = w11 at *))
      go_roundw
      case rel => exact ⟨j + 1, by omega, by go_num, hO2, by rw [HY.out]; exact X11⟩
      case measure => simp [intOf]; omega
    · have e : n = j := by omega
      subst e
      rw [HSN.out] at h11
      replace h3 := h3.only hO n3
      replace h7 := h7.only hO n7
      replace hK := hK.only hO ng
      have hbO := hO.below hlo hW.size
      replace hW := hW.trans hbO
      replace hT : TabsH wr := hTi.next hW
      clear hO hbO hTi n3 n7 ng hlt hlo
      have ejj : decide ((n : Int) < (n : Int)) = false := decide_eq_false (by omega)
      generalize wr = w20 at *
      go_upto_region 14 with (fail)
      have s20 := hW.size
      refine region_seq2 7 172 (fun _ => false) [Is (.int .i64 0), Is (.bool false), Is (.bool false), Is (.agg (ints .u8 sN).toArray), Is (.agg (ints .u8 sN).toArray), Is (.bool false), Is (.bool false)] [74, 75, 76, 77, 78, 79, 80] (by kernel_rfl) (by kernel_rfl) (Nat.le_of_eq rfl) (grows_cons (Is.grows _) (grows_cons (Is.grows _) (grows_cons (Is.grows _) (grows_cons (Is.grows _) (grows_cons (Is.grows _) (grows_cons (Is.grows _) (grows_cons (Is.grows _) grows_nil)))))))
        ⟨step_mvP rfl (.inl rfl) rfl rfl (knows_out 8 (by kernel_rfl) rfl),
         step_neC rfl (.inl rfl) rfl Tryd.underlying31 rfl (by decide) (knows_in 0 74 (by decide) (by kernel_rfl) rfl rfl),
         step_mvP rfl (.inl rfl) rfl rfl (knows_in 1 75 (by decide) (by kernel_rfl) rfl rfl),
         step_ldV rfl (.inr ⟨2, false, 76, rfl, by decide, by kernel_rfl, rfl, fun _ _ h => h⟩) (fun _ hw => (h7.next hw).range) rfl Tryd.underlying30 rfl (szV infS32 (il HNL.out)) rfl (knows_out 7 (by kernel_rfl) rfl),
         step_ldV rfl (.inr ⟨2, false, 76, rfl, by decide, by kernel_rfl, rfl, fun _ _ h => h⟩) (fun _ hw => (h11.next hw).range) rfl Tryd.underlying30 rfl (szV infS32 (il HNL.out)) rfl (knows_out 11 (by kernel_rfl) rfl),
         step_neA rfl (.inr ⟨2, false, 76, rfl, by decide, by kernel_rfl, rfl, fun _ _ h => h⟩) rfl eqV32 HNL.out HNL.out (decide_eq_true rfl) rfl (knows_in 3 77 (by decide) (by kernel_rfl) rfl rfl) (knows_in 4 78 (by decide) (by kernel_rfl) rfl rfl),
         step_pick rfl (.inl rfl) (b := false) rfl rfl (knows_in 2 76 (by decide) (by kernel_rfl) rfl rfl) (knows_in 5 79 (by decide) (by kernel_rfl) rfl rfl), trivial⟩ ?_
      intro val w21 hw hS hap hla
      have e74 : val 74 = (.int .i64 0) := hS 0 74 (by decide) rfl
      have e75 : val 75 = (.bool false) := hS 1 75 (by decide) rfl
      have e76 : val 76 = (.bool false) := hS 2 76 (by decide) rfl
      have e77 : val 77 = (.agg (ints .u8 sN).toArray) := hS 3 77 (by decide) rfl
      have e78 : val 78 = (.agg (ints .u8 sN).toArray) := hS 4 78 (by decide) rfl
      have e79 : val 79 = (.bool false) := hS 5 79 (by decide) rfl
      have e80 : val 80 = (.bool false) := hS 6 80 (by decide) rfl
      simp only [putVals, List.foldl_cons, List.foldl_nil, List.drop_succ_cons, List.drop_zero, Act.put, List.setIfInBounds_toArray, List.set_cons_succ, List.set_cons_zero, e74, e75, e76, e77, e78, e79, e80]
      clear hS hap hla e74 e75 e76 e77 e78 e79 e80 
      replace h3 := h3.next hw
      replace h7 := h7.next hw
      replace hK := hK.next hw
      replace hT := hT.next hw
      replace hW := hW.trans (Below.mono hw hW.size)
      clear hw
      go_upto_region 18 with (fail)
      have hL : Rw w21 gc ((n - 1) * 32) (ints .u8 st) := by
        have h := hK (n - 1) (by omega) (by omega)
        rw [show n - 1 - (n - 1) = 0 by omega] at h
        exact h
      have s21 := hW.size
      refine region_spec2 16 172 (fun _ => false) [Is (.int .i64 0), Is (.bool false), Is (.bool false), Is (.slice (some ⟨gc, 0, none⟩) n n), Is (.int .i64 (n : Nat)), Is (.int .i64 (n : Int)), Is (.bool false), Is (.bool false), Is (.bool false), Is (.slice (some ⟨gc, 0, none⟩) n n), Is (.int .i64 (n : Int)), Is (.int .i64 ((n - 1 : Nat) : Int)), Is (.pointer (some ⟨gc, ((n - 1) * 32), none⟩)), Is (.agg (ints .u8 st).toArray), Is (.agg (ints .u8 st).toArray), Is (.bool false)] [90, 91, 92, 93, 94, 95, 96, 97, 98, 99, 100, 101, 102, 103, 104, 105] (by kernel_rfl) (by kernel_rfl) (by kernel_rfl) (Nat.le_of_eq rfl) (grows_cons (Is.grows _) (grows_cons (Is.grows _) (grows_cons (Is.grows _) (grows_cons (Is.grows _) (grows_cons (Is.grows _) (grows_cons (Is.grows _) (grows_cons (Is.grows _) (grows_cons (Is.grows _) (grows_cons (Is.grows _) (grows_cons (Is.grows _) (grows_cons (Is.grows _) (grows_cons (Is.grows _) (grows_cons (Is.grows _) (grows_cons (Is.grows _) (grows_cons (Is.grows _) (grows_cons (Is.grows _) grows_nil))))))))))))))))
        ⟨step_mvP rfl (.inl rfl) rfl rfl (knows_out 10 (by kernel_rfl) rfl),
         step_neC rfl (.inl rfl) rfl Tryd.underlying31 rfl (by decide) (knows_in 0 90 (by decide) (by kernel_rfl) rfl rfl),
         step_mvP rfl (.inl rfl) rfl rfl (knows_in 1 91 (by decide) (by kernel_rfl) rfl rfl),
         step_mvP rfl (.inr ⟨2, false, 92, rfl, by decide, by kernel_rfl, rfl, fun _ _ h => h⟩) rfl rfl (knows_out 9 (by kernel_rfl) rfl),
         step_len rfl (.inr ⟨2, false, 92, rfl, by decide, by kernel_rfl, rfl, fun _ _ h => h⟩) uaVc rfl rfl (knows_in 3 93 (by decide) (by kernel_rfl) rfl rfl),
         step_mvP rfl (.inr ⟨2, false, 92, rfl, by decide, by kernel_rfl, rfl, fun _ _ h => h⟩) rfl rfl (knows_out 1 (by kernel_rfl) rfl),
         (step_ex (.bool false) rfl (.inr ⟨2, false, 92, rfl, by decide, by kernel_rfl, rfl, fun _ _ h => h⟩) rfl fun a ww hw hf hd => by
             have h0 : a.eval (.tmp 94) = (.int .i64 (n : Nat)) := ((knows_in 4 94 (by decide) (by kernel_rfl) rfl rfl) : Knows _ _ w21 _ 16 _ 6 _ (.int .i64 (n : Nat))) a ww hw hf hd
             have h1 : a.eval (.tmp 95) = (.int .i64 (n : Int)) := ((knows_in 5 95 (by decide) (by kernel_rfl) rfl rfl) : Knows _ _ w21 _ 16 _ 6 _ (.int .i64 (n : Int))) a ww hw hf hd
             revert h0 h1
             generalize a.eval = ev
             intro h0 h1
             unfold execOp
             simp only [h0, h1]
             go_simp),
         step_pick rfl (.inl rfl) (b := false) rfl rfl (knows_in 2 92 (by decide) (by kernel_rfl) rfl rfl) (knows_in 6 96 (by decide) (by kernel_rfl) rfl rfl),
         step_mvP rfl (.inl rfl) rfl rfl (knows_in 7 97 (by decide) (by kernel_rfl) rfl rfl),
         step_mvP rfl (.inr ⟨8, false, 98, rfl, by decide, by kernel_rfl, rfl, fun _ _ h => h⟩) rfl rfl (knows_out 9 (by kernel_rfl) rfl),
         step_mvP rfl (.inr ⟨8, false, 98, rfl, by decide, by kernel_rfl, rfl, fun _ _ h => h⟩) rfl rfl (knows_out 1 (by kernel_rfl) rfl),
         (step_ex (.int .i64 ((n - 1 : Nat) : Int)) rfl (.inr ⟨8, false, 98, rfl, by decide, by kernel_rfl, rfl, fun _ _ h => h⟩) rfl fun a ww hw hf hd => by
             have h0 : a.eval (.tmp 100) = (.int .i64 (n : Int)) := ((knows_in 10 100 (by decide) (by kernel_rfl) rfl rfl) : Knows _ _ w21 _ 16 _ 11 _ (.int .i64 (n : Int))) a ww hw hf hd
             have h1 : a.eval (.const (.int .i64 1)) = (.int .i64 1) := rfl
             revert h0 h1
             generalize a.eval = ev
             intro h0 h1
             unfold execOp
             simp only [h0, h1]
             go_simp),
         (step_ex (.pointer (some ⟨gc, ((n - 1) * 32), none⟩)) rfl (.inr ⟨8, false, 98, rfl, by decide, by kernel_rfl, rfl, fun _ _ h => h⟩) rfl fun a ww hw hf hd => by
             have h0 : a.eval (.tmp 99) = (.slice (some ⟨gc, 0, none⟩) n n) := ((knows_in 9 99 (by decide) (by kernel_rfl) rfl rfl) : Knows _ _ w21 _ 16 _ 12 _ (.slice (some ⟨gc, 0, none⟩) n n)) a ww hw hf hd
             have h1 : a.eval (.tmp 101) = (.int .i64 ((n - 1 : Nat) : Int)) := ((knows_in 11 101 (by decide) (by kernel_rfl) rfl rfl) : Knows _ _ w21 _ 16 _ 12 _ (.int .i64 ((n - 1 : Nat) : Int))) a ww hw hf hd
             revert h0 h1
             generalize a.eval = ev
             intro h0 h1
             unfold execOp
             simp only [h0, h1]
             go_simp),
         step_ldV rfl (.inr ⟨8, false, 98, rfl, by decide, by kernel_rfl, rfl, fun _ _ h => h⟩) (fun _ hw => ((hL.next hw)).range) rfl Tryd.underlying30 rfl (szV infS32 (il HSL.out)) rfl (knows_in 12 102 (by decide) (by kernel_rfl) rfl rfl),
         step_ldV rfl (.inr ⟨8, false, 98, rfl, by decide, by kernel_rfl, rfl, fun _ _ h => h⟩) (fun _ hw => (h3.next hw).range) rfl Tryd.underlying30 rfl (szV infS32 (il HSL.out)) rfl (knows_out 3 (by kernel_rfl) rfl),
         step_neA rfl (.inr ⟨8, false, 98, rfl, by decide, by kernel_rfl, rfl, fun _ _ h => h⟩) rfl eqV32 HSL.out HSL.out (decide_eq_true rfl) rfl (knows_in 13 103 (by decide) (by kernel_rfl) rfl rfl) (knows_in 14 104 (by decide) (by kernel_rfl) rfl rfl), trivial⟩ ?_
      intro val w22 hw hS hap hla
      have e90 : val 90 = (.int .i64 0) := hS 0 90 (by decide) rfl
      have e91 : val 91 = (.bool false) := hS 1 91 (by decide) rfl
      have e92 : val 92 = (.bool false) := hS 2 92 (by decide) rfl
      have e93 : val 93 = (.slice (some ⟨gc, 0, none⟩) n n) := hS 3 93 (by decide) rfl
      have e94 : val 94 = (.int .i64 (n : Nat)) := hS 4 94 (by decide) rfl
      have e95 : val 95 = (.int .i64 (n : Int)) := hS 5 95 (by decide) rfl
      have e96 : val 96 = (.bool false) := hS 6 96 (by decide) rfl
      have e97 : val 97 = (.bool false) := hS 7 97 (by decide) rfl
      have e98 : val 98 = (.bool false) := hS 8 98 (by decide) rfl
      have e99 : val 99 = (.slice (some ⟨gc, 0, none⟩) n n) := hS 9 99 (by decide) rfl
      have e100 : val 100 = (.int .i64 (n : Int)) := hS 10 100 (by decide) rfl
      have e101 : val 101 = (.int .i64 ((n - 1 : Nat) : Int)) := hS 11 101 (by decide) rfl
      have e102 : val 102 = (.pointer (some ⟨gc, ((n - 1) * 32), none⟩)) := hS 12 102 (by decide) rfl
      have e103 : val 103 = (.agg (ints .u8 st).toArray) := hS 13 103 (by decide) rfl
      have e104 : val 104 = (.agg (ints .u8 st).toArray) := hS 14 104 (by decide) rfl
      have e105 : val 105 = (.bool false) := hS 15 105 (by decide) rfl
      simp only [putVals, List.foldl_cons, List.foldl_nil, List.drop_succ_cons, List.drop_zero, Act.put, List.setIfInBounds_toArray, List.set_cons_succ, List.set_cons_zero, e90, e91, e92, e93, e94, e95, e96, e97, e98, e99, e100, e101, e102, e103, e104, e105]
      clear hS hap hla e90 e91 e92 e93 e94 e95 e96 e97 e98 e99 e100 e101 e102 e103 e104 e105 
      replace h3 := h3.next hw
      replace h7 := h7.next hw
      replace hK := hK.next hw
      replace hT := hT.next hw
      replace hW := hW.trans (Below.mono hw hW.size)
      clear hw
      clear hL
      go_wp2
      go_loopw [12] (fun i wr => ∃ q : Nat, q ≤ n - 1 ∧ i = .int .i64 q ∧ Below w22.heap.size w22 wr) (fun i _ => (intOf i).toNat)
      case atStart => exact ⟨n - 1, Nat.le_refl _, rfl, Below.refl _ _⟩
      case round =>
        obtain ⟨q, hq, rfl, hb⟩ := hrel
        by_cases hq0 : 0 < q
        · obtain ⟨p, hpq⟩ : ∃ p, q = p + 1 := ⟨q - 1, by omega⟩
          obtain ⟨x0, hx0e⟩ : ∃ x, backV st (n - 1 - q) = x := ⟨_, rfl⟩
          obtain ⟨x1, hx1e⟩ : ∃ x, backV st (n - 1 - p) = x := ⟨_, rfl⟩
          have H0L : Hid (x0.length = 32) := hid (by rw [← hx0e]; exact HL.out _)
          have H1L : Hid (x1.length = 32) := hid (by rw [← hx1e]; exact HL.out _)
          have HRN : Hid (∀ w : World, Calls Tryd.prog 13 #[.agg (ints .u8 x0).toArray] w fun e w' => e = .returned (.agg (ints .u8 x1).toArray) ∧ Below w.heap.size w w') := hid fun w => by
            have h := rnext_any x0 w H0L.out (by rw [← hx0e]; exact HB.out _)
            have e : nextV x0 = x1 := by rw [← hx0e, ← hx1e, show n - 1 - p = n - 1 - q + 1 by omega]; rfl
            rw [e] at h
            exact h
          have hx0 := (hK.next hb) q (by omega) (by omega)
          have hx1 := (hK.next hb) p (by omega) (by omega)
          rw [hx0e] at hx0
          rw [hx1e] at hx1
          have hWr := hW.trans (Below.mono hb hW.size)
          have p1 : (q : Int) - 1 = (p : Int) := by omega
          have p2 : (p : Int) < n := by omega
          have p3 : (q : Int) < n := by omega
          have p4 : (0 : Int) < (q : Int) := by omega
          have p5 : (0 : Int) ≤ (p : Int) := by omega
          have p6 : IntKind.i64.wrap (p : Int) = (p : Int) := IntWalk.i64_in _ (by omega)
          have p7 : ¬ n ≤ p := by omega
          have p8 : ¬ n ≤ q := by omega
          have HPQ := hid hpq
          clear hx0e hx1e hpq hq0 h3 h7 hK hT h11
          have hW0 := hW
          replace hW := hWr
          clear hWr
          generalize wr = w30 at *
          go_upto_region 23 with (fail)
          have s30 := hW.size
          refine region_spec2 10 172 (fun _ => false) [Is (.slice (some ⟨gc, 0, none⟩) n n), Is (.int .i64 (q : Int)), Is (.int .i64 (p : Int)), Is (.pointer (some ⟨gc, (p * 32), none⟩)), Is (.agg (ints .u8 x1).toArray), Is (.slice (some ⟨gc, 0, none⟩) n n), Is (.int .i64 (q : Int)), Is (.pointer (some ⟨gc, (q * 32), none⟩)), Is (.agg (ints .u8 x0).toArray), Is (.agg (ints .u8 x1).toArray)] [113, 114, 115, 116, 117, 118, 119, 120, 121, 122] (by kernel_rfl) (by kernel_rfl) (by kernel_rfl) (Nat.le_of_eq rfl) (grows_cons (Is.grows _) (grows_cons (Is.grows _) (grows_cons (Is.grows _) (grows_cons (Is.grows _) (grows_cons (Is.grows _) (grows_cons (Is.grows _) (grows_cons (Is.grows _) (grows_cons (Is.grows _) (grows_cons (Is.grows _) (grows_cons (Is.grows _) grows_nil))))))))))
            ⟨step_mvP rfl (.inl rfl) rfl rfl (knows_out 9 (by kernel_rfl) rfl),
             step_mvP rfl (.inl rfl) rfl rfl (knows_out 12 (by kernel_rfl) rfl),
             (step_ex (.int .i64 (p : Int)) rfl (.inl rfl) rfl fun a ww hw hf hd => by
                 have h0 : a.eval (.tmp 114) = (.int .i64 (q : Int)) := ((knows_in 1 114 (by decide) (by kernel_rfl) rfl rfl) : Knows _ _ w30 _ 10 _ 2 _ (.int .i64 (q : Int))) a ww hw hf hd
                 have h1 : a.eval (.const (.int .i64 1)) = (.int .i64 1) := rfl
                 revert h0 h1
                 generalize a.eval = ev
                 intro h0 h1
                 unfold execOp
                 simp only [h0, h1]
                 go_simp),
             (step_ex (.pointer (some ⟨gc, (p * 32), none⟩)) rfl (.inl rfl) rfl fun a ww hw hf hd => by
                 have h0 : a.eval (.tmp 113) = (.slice (some ⟨gc, 0, none⟩) n n) := ((knows_in 0 113 (by decide) (by kernel_rfl) rfl rfl) : Knows _ _ w30 _ 10 _ 3 _ (.slice (some ⟨gc, 0, none⟩) n n)) a ww hw hf hd
                 have h1 : a.eval (.tmp 115) = (.int .i64 (p : Int)) := ((knows_in 2 115 (by decide) (by kernel_rfl) rfl rfl) : Knows _ _ w30 _ 10 _ 3 _ (.int .i64 (p : Int))) a ww hw hf hd
                 revert h0 h1
                 generalize a.eval = ev
                 intro h0 h1
                 unfold execOp
                 simp only [h0, h1]
                 go_simp),
             step_ldV rfl (.inl rfl) (fun _ hw => ((hx1.next hw)).range) rfl Tryd.underlying30 rfl (szV infS32 (il H1L.out)) rfl (knows_in 3 116 (by decide) (by kernel_rfl) rfl rfl),
             step_mvP rfl (.inl rfl) rfl rfl (knows_out 9 (by kernel_rfl) rfl),
             step_mvP rfl (.inl rfl) rfl rfl (knows_out 12 (by kernel_rfl) rfl),
             (step_ex (.pointer (some ⟨gc, (q * 32), none⟩)) rfl (.inl rfl) rfl fun a ww hw hf hd => by
                 have h0 : a.eval (.tmp 118) = (.slice (some ⟨gc, 0, none⟩) n n) := ((knows_in 5 118 (by decide) (by kernel_rfl) rfl rfl) : Knows _ _ w30 _ 10 _ 7 _ (.slice (some ⟨gc, 0, none⟩) n n)) a ww hw hf hd
                 have h1 : a.eval (.tmp 119) = (.int .i64 (q : Int)) := ((knows_in 6 119 (by decide) (by kernel_rfl) rfl rfl) : Knows _ _ w30 _ 10 _ 7 _ (.int .i64 (q : Int))) a ww hw hf hd
                 revert h0 h1
                 generalize a.eval = ev
                 intro h0 h1
                 unfold execOp
                 simp only [h0, h1]
                 go_simp),
             step_ldV rfl (.inl rfl) (fun _ hw => ((hx0.next hw)).range) rfl Tryd.underlying30 rfl (szV infS32 (il H0L.out)) rfl (knows_in 7 120 (by decide) (by kernel_rfl) rfl rfl),
             step_cw rfl (.inl rfl) rfl cx13 rfl (fun aa ww hw hf hd => ⟨_, (one_arg (knows_in 8 121 (by decide) (by kernel_rfl) rfl rfl)) aa ww hw hf hd, HRN.out ww⟩), trivial⟩ ?_
          intro val w31 hw hS hap hla
          have e113 : val 113 = (.slice (some ⟨gc, 0, none⟩) n n) := hS 0 113 (by decide) rfl
          have e114 : val 114 = (.int .i64 (q : Int)) := hS 1 114 (by decide) rfl
          have e115 : val 115 = (.int .i64 (p : Int)) := hS 2 115 (by decide) rfl
          have e116 : val 116 = (.pointer (some ⟨gc, (p * 32), none⟩)) := hS 3 116 (by decide) rfl
          have e117 : val 117 = (.agg (ints .u8 x1).toArray) := hS 4 117 (by decide) rfl
          have e118 : val 118 = (.slice (some ⟨gc, 0, none⟩) n n) := hS 5 118 (by decide) rfl
          have e119 : val 119 = (.int .i64 (q : Int)) := hS 6 119 (by decide) rfl
          have e120 : val 120 = (.pointer (some ⟨gc, (q * 32), none⟩)) := hS 7 120 (by decide) rfl
          have e121 : val 121 = (.agg (ints .u8 x0).toArray) := hS 8 121 (by decide) rfl
          have e122 : val 122 = (.agg (ints .u8 x1).toArray) := hS 9 122 (by decide) rfl
          simp only [putVals, List.foldl_cons, List.foldl_nil, List.drop_succ_cons, List.drop_zero, Act.put, List.setIfInBounds_toArray, List.set_cons_succ, List.set_cons_zero, e113, e114, e115, e116, e117, e118, e119, e120, e121, e122]
          clear hS hap hla e113 e114 e115 e116 e117 e118 e119 e120 e121 e122 
          replace hb := hb.trans (Below.mono hw hb.size)
          replace hW := hW.trans (Below.mono hw hW.size)
          clear hw
          with_reducible refine wpList_neA rfl (o := ⟨some 123, .binOp .neq 30 (.tmp 117) (.tmp 122) 30, _, _, _, _⟩) rfl eqV32 H1L.out H1L.out (decide_eq_true rfl) rfl rfl ?_
          go_wp2
          go_roundw
          case rel => exact ⟨p, by have := HPQ.out; omega, by go_num, hb⟩
          case measure => have := HPQ.out; simp [intOf]; omega
        · have e : q = 0 := by omega
          subst e
          replace h3 := h3.next hb
          replace h7 := h7.next hb
          replace hK := hK.next hb
          replace hT := hT.next hb
          replace hW := hW.trans (Below.mono hb hW.size)
          clear hb h11 hq hq0
          generalize wr = w40 at *
          by_cases k0 : k < 0
          · have ek2 : decide (k < 0) = true := decide_eq_true k0
            clear k0 h
            go_wp2
            go_ret
            exact ⟨rfl, hW⟩
          have ek2 : decide (k < 0) = false := decide_eq_false k0
          by_cases k1 : (n : Int) < k
          · have ek3 : decide ((n : Int) < k) = true := decide_eq_true k1
            clear k0 k1 h
            go_wp2
            go_ret
            exact ⟨rfl, hW⟩
          have ek3 : decide ((n : Int) < k) = false := decide_eq_false k1
          have r3 := h3.range
          by_cases kn : k = n
          · subst kn
            obtain ⟨xk, hxk⟩ : ∃ x, x = sN := ⟨_, rfl⟩
            have HKL : Hid (xk.length = 32) := hid (by rw [hxk]; exact HNL.out)
            have HBK : Hid (∀ w : World, TabsH w → Calls Tryd.prog 14 #[.agg (ints .u8 st).toArray, .int .i64 n] w fun e w' => e = .returned (.tuple #[.agg (ints .u8 xk).toArray, .int .i64 0]) ∧ Below w.heap.size w w') := hid fun w hT => by
              have h := back_any st n w hT HSL.out hby (by omega)
              rw [HSN.out, ← hxk] at h
              exact h
            have HBN : Hid (∀ w : World, TabsH w → Calls Tryd.prog 14 #[.agg (ints .u8 xk).toArray, .int .i64 0] w fun e w' => e = .returned (.tuple #[.agg (ints .u8 sN).toArray, .int .i64 0]) ∧ Below w.heap.size w w') := hid fun w hT => by
              have h := back_any xk 0 w hT HKL.out (by rw [hxk, ← HSN.out]; exact HB.out n) (by omega)
              rw [show backV xk 0 = xk from rfl, hxk] at h
              rw [hxk]
              exact h
            clear hxk k0 k1 h
            go_upto_region 29 with (first
              | (with_reducible refine wpList_load_mid (op := ⟨some 132, .load 30 (.tmp 3), _, _, _, _⟩) rfl 30 (.tmp 3) rfl w.heap.size 0 rfl (ints .u8 st) _ r3 Tryd.underlying30 rfl (szV infS32 (il HSL.out)) ?_)
              | (go_at_call 14; (with_reducible refine (HBN.out _ hT5).mono ?_); rintro e w46 ⟨rfl, hb46⟩
                 have R15 := (Rw.new w46 (ints .u8 (hzeros 32)) 30).roomA (us := ints .u8 sN) ((il HNL.out).trans (il (hz_len 32)).symm)
                 have h15 := (Rw.new w46 (ints .u8 (hzeros 32)) 30).storedA (us := ints .u8 sN) ((il HNL.out).trans (il (hz_len 32)).symm)
                 have hb47 := hb46.trans (Below.mono (Below.setCells (below_new w46 (.cells (ints .u8 (hzeros 32)).toArray 30)) (Nat.le_refl _) 0 (ints .u8 sN).toArray.toList) hb46.size)
                 replace h7 := h7.next hb47
                 replace h13 := h13.next hb47
                 replace hK := hK.next hb47
                 replace hW := hW.trans (Below.mono hb47 hW.size)
                 clear hb46 hb47 r13)
              | (go_at_call 14; (with_reducible refine (HBK.out _ hT).mono ?_); rintro e w43 ⟨rfl, hb43⟩
                 have R13 := (Rw.new w43 (ints .u8 (hzeros 32)) 30).roomA (us := ints .u8 xk) ((il HKL.out).trans (il (hz_len 32)).symm)
                 have h13 := (Rw.new w43 (ints .u8 (hzeros 32)) 30).storedA (us := ints .u8 xk) ((il HKL.out).trans (il (hz_len 32)).symm)
                 have hb44 := hb43.trans (Below.mono (Below.setCells (below_new w43 (.cells (ints .u8 (hzeros 32)).toArray 30)) (Nat.le_refl _) 0 (ints .u8 xk).toArray.toList) hb43.size)
                 replace h7 := h7.next hb44
                 replace hK := hK.next hb44
                 have hT5 := hT.next hb44
                 replace hW := hW.trans (Below.mono hb44 hW.size)
                 have r13 := h13.range
                 clear hb43 hb44 r3)
              | (with_reducible refine wpList_store_mid (op := ⟨none, .store 30 (.tmp 13) (.tmp 135), _, _, _, _⟩) rfl 30 (.tmp 13) (.tmp 135) rfl w43.heap.size 0 (ints .u8 xk).toArray rfl rfl R13 (szA infS32 (il HKL.out)) (ints_all _ _) ?_
                 generalize (w43.alloc (.cells (ints .u8 (hzeros 32)).toArray 30)).setCells w43.heap.size 0 (ints .u8 xk).toArray.toList = w45 at *
                 generalize w43.heap.size = b13 at *
                 clear R13)
              | (with_reducible refine wpList_load_mid (op := ⟨some 138, .load 30 (.tmp 13), _, _, _, _⟩) rfl 30 (.tmp 13) rfl b13 0 rfl (ints .u8 xk) _ r13 Tryd.underlying30 rfl (szV infS32 (il HKL.out)) ?_)
              | (with_reducible refine wpList_store_mid (op := ⟨none, .store 30 (.tmp 15) (.tmp 143), _, _, _, _⟩) rfl 30 (.tmp 15) (.tmp 143) rfl w46.heap.size 0 (ints .u8 sN).toArray rfl rfl R15 (szA infS32 (il HNL.out)) (ints_all _ _) ?_
                 generalize (w46.alloc (.cells (ints .u8 (hzeros 32)).toArray 30)).setCells w46.heap.size 0 (ints .u8 sN).toArray.toList = w50 at *
                 generalize w46.heap.size = b15 at *
                 clear R15))
            have s50 := hW.size
            refine region_spec2 27 172 (fun _ => false) [Is (.int .i64 0), Is (.bool true), Is (.bool true), Is (.int .i64 0), Is (.bool true), Is (.bool true), Is (.bool true), Is (.agg (ints .u8 sN).toArray), Is (.agg (ints .u8 sN).toArray), Is (.bool true), Is (.bool true), Is (.bool true), Is (.int .i64 (n : Int)), Is (.int .i64 (n : Int)), Is (.bool true), Is (.bool true), Is undef, Is undef, Is undef, Is undef, Is undef, Is undef, Is undef, Is undef, Is undef, Is (.bool true), Is (.bool true)] [145, 146, 147, 148, 149, 150, 151, 152, 153, 154, 155, 156, 157, 158, 159, 160, 161, 162, 163, 164, 165, 166, 167, 168, 169, 170, 171] (by kernel_rfl) (by kernel_rfl) (by kernel_rfl) (Nat.le_of_eq rfl) (grows_cons (Is.grows _) (grows_cons (Is.grows _) (grows_cons (Is.grows _) (grows_cons (Is.grows _) (grows_cons (Is.grows _) (grows_cons (Is.grows _) (grows_cons (Is.grows _) (grows_cons (Is.grows _) (grows_cons (Is.grows _) (grows_cons (Is.grows _) (grows_cons (Is.grows _) (grows_cons (Is.grows _) (grows_cons (Is.grows _) (grows_cons (Is.grows _) (grows_cons (Is.grows _) (grows_cons (Is.grows _) (grows_cons (Is.grows _) (grows_cons (Is.grows _) (grows_cons (Is.grows _) (grows_cons (Is.grows _) (grows_cons (Is.grows _) (grows_cons (Is.grows _) (grows_cons (Is.grows _) (grows_cons (Is.grows _) (grows_cons (Is.grows _) (grows_cons (Is.grows _) (grows_cons (Is.grows _) grows_nil)))))))))))))))))))))))))))
              ⟨step_mvP rfl (.inl rfl) rfl rfl (knows_out 14 (by kernel_rfl) rfl),
               step_eqC rfl (.inl rfl) rfl Tryd.underlying31 rfl (by decide) (knows_in 0 145 (by decide) (by kernel_rfl) rfl rfl),
               step_mvP rfl (.inl rfl) rfl rfl (knows_in 1 146 (by decide) (by kernel_rfl) rfl rfl),
               step_mvP rfl (.inr ⟨2, true, 147, rfl, by decide, by kernel_rfl, rfl, fun _ _ h => h⟩) rfl rfl (knows_out 16 (by kernel_rfl) rfl),
               step_eqC rfl (.inr ⟨2, true, 147, rfl, by decide, by kernel_rfl, rfl, fun _ _ h => h⟩) rfl Tryd.underlying31 rfl (by decide) (knows_in 3 148 (by decide) (by kernel_rfl) rfl rfl),
               step_pick rfl (.inl rfl) (b := true) rfl rfl (knows_in 2 147 (by decide) (by kernel_rfl) rfl rfl) (knows_in 4 149 (by decide) (by kernel_rfl) rfl rfl),
               step_mvP rfl (.inl rfl) rfl rfl (knows_in 5 150 (by decide) (by kernel_rfl) rfl rfl),
               step_ldV rfl (.inr ⟨6, true, 151, rfl, by decide, by kernel_rfl, rfl, fun _ _ h => h⟩) (fun _ hw => (h15.next hw).range) rfl Tryd.underlying30 rfl (szV infS32 (il HNL.out)) rfl (knows_out 15 (by kernel_rfl) rfl),
               step_ldV rfl (.inr ⟨6, true, 151, rfl, by decide, by kernel_rfl, rfl, fun _ _ h => h⟩) (fun _ hw => (h7.next hw).range) rfl Tryd.underlying30 rfl (szV infS32 (il HNL.out)) rfl (knows_out 7 (by kernel_rfl) rfl),
               step_eqA rfl (.inr ⟨6, true, 151, rfl, by decide, by kernel_rfl, rfl, fun _ _ h => h⟩) rfl eqV32 HNL.out HNL.out (decide_eq_true rfl) rfl (knows_in 7 152 (by decide) (by kernel_rfl) rfl rfl) (knows_in 8 153 (by decide) (by kernel_rfl) rfl rfl),
               step_pick rfl (.inl rfl) (b := true) rfl rfl (knows_in 6 151 (by decide) (by kernel_rfl) rfl rfl) (knows_in 9 154 (by decide) (by kernel_rfl) rfl rfl),
               step_mvP rfl (.inl rfl) rfl rfl (knows_in 10 155 (by decide) (by kernel_rfl) rfl rfl),
               step_mvP rfl (.inr ⟨11, true, 156, rfl, by decide, by kernel_rfl, rfl, fun _ _ h => h⟩) rfl rfl (knows_out 2 (by kernel_rfl) rfl),
               step_mvP rfl (.inr ⟨11, true, 156, rfl, by decide, by kernel_rfl, rfl, fun _ _ h => h⟩) rfl rfl (knows_out 1 (by kernel_rfl) rfl),
               (step_ex (.bool true) rfl (.inr ⟨11, true, 156, rfl, by decide, by kernel_rfl, rfl, fun _ _ h => h⟩) rfl fun a ww hw hf hd => by
                   have h0 : a.eval (.tmp 157) = (.int .i64 (n : Int)) := ((knows_in 12 157 (by decide) (by kernel_rfl) rfl rfl) : Knows _ _ w50 _ 27 _ 14 _ (.int .i64 (n : Int))) a ww hw hf hd
                   have h1 : a.eval (.tmp 158) = (.int .i64 (n : Int)) := ((knows_in 13 158 (by decide) (by kernel_rfl) rfl rfl) : Knows _ _ w50 _ 27 _ 14 _ (.int .i64 (n : Int))) a ww hw hf hd
                   revert h0 h1
                   generalize a.eval = ev
                   intro h0 h1
                   unfold execOp
                   simp only [h0, h1]
                   go_simp),
               step_mvP rfl (.inr ⟨11, true, 156, rfl, by decide, by kernel_rfl, rfl, fun _ _ h => h⟩) rfl rfl (knows_in 14 159 (by decide) (by kernel_rfl) rfl rfl),
               step_off rfl ⟨15, false, 160, rfl, by decide, by kernel_rfl, rfl, fun _ _ h => .inl h⟩ (fun _ => rfl),
               step_off rfl ⟨15, false, 160, rfl, by decide, by kernel_rfl, rfl, fun _ _ h => .inl h⟩ (fun _ => rfl),
               step_off rfl ⟨15, false, 160, rfl, by decide, by kernel_rfl, rfl, fun _ _ h => .inl h⟩ (fun _ => rfl),
               step_off rfl ⟨15, false, 160, rfl, by decide, by kernel_rfl, rfl, fun _ _ h => .inl h⟩ (fun _ => rfl),
               step_off rfl ⟨15, false, 160, rfl, by decide, by kernel_rfl, rfl, fun _ _ h => .inl h⟩ (fun _ => rfl),
               step_off rfl ⟨15, false, 160, rfl, by decide, by kernel_rfl, rfl, fun _ _ h => .inl h⟩ (fun _ => rfl),
               step_off rfl ⟨15, false, 160, rfl, by decide, by kernel_rfl, rfl, fun _ _ h => .inl h⟩ (fun _ => rfl),
               step_off rfl ⟨15, false, 160, rfl, by decide, by kernel_rfl, rfl, fun _ _ h => .inl h⟩ (fun _ => rfl),
               step_off rfl ⟨15, false, 160, rfl, by decide, by kernel_rfl, rfl, fun _ _ h => .inl h⟩ (fun _ => rfl),
               step_pick rfl (.inr ⟨11, true, 156, rfl, by decide, by kernel_rfl, rfl, fun _ _ h => h⟩) (b := true) rfl rfl (knows_in 15 160 (by decide) (by kernel_rfl) rfl rfl) (knows_const _),
               step_pick rfl (.inl rfl) (b := true) rfl rfl (knows_in 11 156 (by decide) (by kernel_rfl) rfl rfl) (knows_in 25 170 (by decide) (by kernel_rfl) rfl rfl), trivial⟩ ?_
            intro val w51 hw hS hap hla
            have e145 : val 145 = (.int .i64 0) := hS 0 145 (by decide) rfl
            have e146 : val 146 = (.bool true) := hS 1 146 (by decide) rfl
            have e147 : val 147 = (.bool true) := hS 2 147 (by decide) rfl
            have e148 : val 148 = (.int .i64 0) := hS 3 148 (by decide) rfl
            have e149 : val 149 = (.bool true) := hS 4 149 (by decide) rfl
            have e150 : val 150 = (.bool true) := hS 5 150 (by decide) rfl
            have e151 : val 151 = (.bool true) := hS 6 151 (by decide) rfl
            have e152 : val 152 = (.agg (ints .u8 sN).toArray) := hS 7 152 (by decide) rfl
            have e153 : val 153 = (.agg (ints .u8 sN).toArray) := hS 8 153 (by decide) rfl
            have e154 : val 154 = (.bool true) := hS 9 154 (by decide) rfl
            have e155 : val 155 = (.bool true) := hS 10 155 (by decide) rfl
            have e156 : val 156 = (.bool true) := hS 11 156 (by decide) rfl
            have e157 : val 157 = (.int .i64 (n : Int)) := hS 12 157 (by decide) rfl
            have e158 : val 158 = (.int .i64 (n : Int)) := hS 13 158 (by decide) rfl
            have e159 : val 159 = (.bool true) := hS 14 159 (by decide) rfl
            have e160 : val 160 = (.bool true) := hS 15 160 (by decide) rfl
            have e161 : val 161 = undef := hS 16 161 (by decide) rfl
            have e162 : val 162 = undef := hS 17 162 (by decide) rfl
            have e163 : val 163 = undef := hS 18 163 (by decide) rfl
            have e164 : val 164 = undef := hS 19 164 (by decide) rfl
            have e165 : val 165 = undef := hS 20 165 (by decide) rfl
            have e166 : val 166 = undef := hS 21 166 (by decide) rfl
            have e167 : val 167 = undef := hS 22 167 (by decide) rfl
            have e168 : val 168 = undef := hS 23 168 (by decide) rfl
            have e169 : val 169 = undef := hS 24 169 (by decide) rfl
            have e170 : val 170 = (.bool true) := hS 25 170 (by decide) rfl
            have e171 : val 171 = (.bool true) := hS 26 171 (by decide) rfl
            simp only [putVals, List.foldl_cons, List.foldl_nil, List.drop_succ_cons, List.drop_zero, Act.put, List.setIfInBounds_toArray, List.set_cons_succ, List.set_cons_zero, e145, e146, e147, e148, e149, e150, e151, e152, e153, e154, e155, e156, e157, e158, e159, e160, e161, e162, e163, e164, e165, e166, e167, e168, e169, e170, e171]
            clear hS hap hla e145 e146 e147 e148 e149 e150 e151 e152 e153 e154 e155 e156 e157 e158 e159 e160 e161 e162 e163 e164 e165 e166 e167 e168 e169 e170 e171 
            replace hW := hW.trans (Below.mono hw hW.size)
            clear hw
            go_wp2
            go_ret
            exact ⟨rfl, hW⟩
          · obtain ⟨K, rfl⟩ := Int.eq_ofNat_of_zero_le (show 0 ≤ k by omega)
            have hKn : K < n := by omega
            obtain ⟨xk, hxk⟩ : ∃ x, backV st K = x := ⟨_, rfl⟩
            have HKL : Hid (xk.length = 32) := hid (by rw [← hxk]; exact HL.out K)
            have HXK := hid hxk
            have HBK : Hid (∀ w : World, TabsH w → Calls Tryd.prog 14 #[.agg (ints .u8 st).toArray, .int .i64 K] w fun e w' => e = .returned (.tuple #[.agg (ints .u8 xk).toArray, .int .i64 0]) ∧ Below w.heap.size w w') := hid fun w hT => by
              have h := back_any st K w hT HSL.out hby (by omega)
              rw [hxk] at h
              exact h
            have HBN : Hid (∀ w : World, TabsH w → Calls Tryd.prog 14 #[.agg (ints .u8 xk).toArray, .int .i64 (n - K : Nat)] w fun e w' => e = .returned (.tuple #[.agg (ints .u8 sN).toArray, .int .i64 0]) ∧ Below w.heap.size w w') := hid fun w hT => by
              have h := back_any xk (n - K) w hT HKL.out (by rw [← hxk]; exact HB.out K) (by omega)
              have e : backV xk (n - K) = sN := by rw [← hxk, ← backV_add, show K + (n - K) = n by omega]; exact HSN.out
              rw [e] at h
              exact h
            have q1 : (n : Int) - (K : Int) = ((n - K : Nat) : Int) := by omega
            have q2 : ((n - 1 : Nat) : Int) - (K : Int) = ((n - 1 - K : Nat) : Int) := by omega
            have q3 : ((n - 1 - K : Nat) : Int) < n := by omega
            have q4 : (0 : Int) ≤ ((n - 1 - K : Nat) : Int) := by omega
            have hne : ((K : Int) == (n : Int)) = false := beq_false_of_ne kn
            have q5 : IntKind.i64.wrap ((n - 1 - K : Nat) : Int) = ((n - 1 - K : Nat) : Int) := IntWalk.i64_in _ (by omega)
            have q6 : ¬ n ≤ n - 1 - K := by omega
            clear hxk k0 k1 h
            go_upto_region 29 with (first
              | (with_reducible refine wpList_load_mid (op := ⟨some 132, .load 30 (.tmp 3), _, _, _, _⟩) rfl 30 (.tmp 3) rfl w.heap.size 0 rfl (ints .u8 st) _ r3 Tryd.underlying30 rfl (szV infS32 (il HSL.out)) ?_)
              | (go_at_call 14; (with_reducible refine (HBN.out _ hT5).mono ?_); rintro e w46 ⟨rfl, hb46⟩
                 have R15 := (Rw.new w46 (ints .u8 (hzeros 32)) 30).roomA (us := ints .u8 sN) ((il HNL.out).trans (il (hz_len 32)).symm)
                 have h15 := (Rw.new w46 (ints .u8 (hzeros 32)) 30).storedA (us := ints .u8 sN) ((il HNL.out).trans (il (hz_len 32)).symm)
                 have hb47 := hb46.trans (Below.mono (Below.setCells (below_new w46 (.cells (ints .u8 (hzeros 32)).toArray 30)) (Nat.le_refl _) 0 (ints .u8 sN).toArray.toList) hb46.size)
                 replace h7 := h7.next hb47
                 replace h13 := h13.next hb47
                 replace hK := hK.next hb47
                 replace hW := hW.trans (Below.mono hb47 hW.size)
                 clear hb46 hb47 r13)
              | (go_at_call 14; (with_reducible refine (HBK.out _ hT).mono ?_); rintro e w43 ⟨rfl, hb43⟩
                 have R13 := (Rw.new w43 (ints .u8 (hzeros 32)) 30).roomA (us := ints .u8 xk) ((il HKL.out).trans (il (hz_len 32)).symm)
                 have h13 := (Rw.new w43 (ints .u8 (hzeros 32)) 30).storedA (us := ints .u8 xk) ((il HKL.out).trans (il (hz_len 32)).symm)
                 have hb44 := hb43.trans (Below.mono (Below.setCells (below_new w43 (.cells (ints .u8 (hzeros 32)).toArray 30)) (Nat.le_refl _) 0 (ints .u8 xk).toArray.toList) hb43.size)
                 replace h7 := h7.next hb44
                 replace hK := hK.next hb44
                 have hT5 := hT.next hb44
                 replace hW := hW.trans (Below.mono hb44 hW.size)
                 have r13 := h13.range
                 clear hb43 hb44 r3)
              | (with_reducible refine wpList_store_mid (op := ⟨none, .store 30 (.tmp 13) (.tmp 135), _, _, _, _⟩) rfl 30 (.tmp 13) (.tmp 135) rfl w43.heap.size 0 (ints .u8 xk).toArray rfl rfl R13 (szA infS32 (il HKL.out)) (ints_all _ _) ?_
                 generalize (w43.alloc (.cells (ints .u8 (hzeros 32)).toArray 30)).setCells w43.heap.size 0 (ints .u8 xk).toArray.toList = w45 at *
                 generalize w43.heap.size = b13 at *
                 clear R13)
              | (with_reducible refine wpList_load_mid (op := ⟨some 138, .load 30 (.tmp 13), _, _, _, _⟩) rfl 30 (.tmp 13) rfl b13 0 rfl (ints .u8 xk) _ r13 Tryd.underlying30 rfl (szV infS32 (il HKL.out)) ?_)
              | (with_reducible refine wpList_store_mid (op := ⟨none, .store 30 (.tmp 15) (.tmp 143), _, _, _, _⟩) rfl 30 (.tmp 15) (.tmp 143) rfl w46.heap.size 0 (ints .u8 sN).toArray rfl rfl R15 (szA infS32 (il HNL.out)) (ints_all _ _) ?_
                 generalize (w46.alloc (.cells (ints .u8 (hzeros 32)).toArray 30)).setCells w46.heap.size 0 (ints .u8 sN).toArray.toList = w50 at *
                 generalize w46.heap.size = b15 at *
                 clear R15))
            have hM : Rw w50 gc ((n - 1 - K) * 32) (ints .u8 xk) := by
              have h := hK (n - 1 - K) (by omega) (by omega)
              rw [show n - 1 - (n - 1 - K) = K by omega, HXK.out] at h
              exact h
            have s50 := hW.size
            refine region_spec2 27 172 (fun _ => false) [Is (.int .i64 0), Is (.bool true), Is (.bool true), Is (.int .i64 0), Is (.bool true), Is (.bool true), Is (.bool true), Is (.agg (ints .u8 sN).toArray), Is (.agg (ints .u8 sN).toArray), Is (.bool true), Is (.bool true), Is (.bool true), Is (.int .i64 (K : Int)), Is (.int .i64 (n : Int)), Is (.bool false), Is (.bool false), Is (.slice (some ⟨gc, 0, none⟩) n n), Is (.int .i64 (n : Int)), Is (.int .i64 ((n - 1 : Nat) : Int)), Is (.int .i64 (K : Int)), Is (.int .i64 ((n - 1 - K : Nat) : Int)), Is (.pointer (some ⟨gc, ((n - 1 - K) * 32), none⟩)), Is (.agg (ints .u8 xk).toArray), Is (.agg (ints .u8 xk).toArray), Is (.bool true), Is (.bool true), Is (.bool true)] [145, 146, 147, 148, 149, 150, 151, 152, 153, 154, 155, 156, 157, 158, 159, 160, 161, 162, 163, 164, 165, 166, 167, 168, 169, 170, 171] (by kernel_rfl) (by kernel_rfl) (by kernel_rfl) (Nat.le_of_eq rfl) (grows_cons (Is.grows _) (grows_cons (Is.grows _) (grows_cons (Is.grows _) (grows_cons (Is.grows _) (grows_cons (Is.grows _) (grows_cons (Is.grows _) (grows_cons (Is.grows _) (grows_cons (Is.grows _) (grows_cons (Is.grows _) (grows_cons (Is.grows _) (grows_cons (Is.grows _) (grows_cons (Is.grows _) (grows_cons (Is.grows _) (grows_cons (Is.grows _) (grows_cons (Is.grows _) (grows_cons (Is.grows _) (grows_cons (Is.grows _) (grows_cons (Is.grows _) (grows_cons (Is.grows _) (grows_cons (Is.grows _) (grows_cons (Is.grows _) (grows_cons (Is.grows _) (grows_cons (Is.grows _) (grows_cons (Is.grows _) (grows_cons (Is.grows _) (grows_cons (Is.grows _) (grows_cons (Is.grows _) grows_nil)))))))))))))))))))))))))))
              ⟨step_mvP rfl (.inl rfl) rfl rfl (knows_out 14 (by kernel_rfl) rfl),
               step_eqC rfl (.inl rfl) rfl Tryd.underlying31 rfl (by decide) (knows_in 0 145 (by decide) (by kernel_rfl) rfl rfl),
               step_mvP rfl (.inl rfl) rfl rfl (knows_in 1 146 (by decide) (by kernel_rfl) rfl rfl),
               step_mvP rfl (.inr ⟨2, true, 147, rfl, by decide, by kernel_rfl, rfl, fun _ _ h => h⟩) rfl rfl (knows_out 16 (by kernel_rfl) rfl),
               step_eqC rfl (.inr ⟨2, true, 147, rfl, by decide, by kernel_rfl, rfl, fun _ _ h => h⟩) rfl Tryd.underlying31 rfl (by decide) (knows_in 3 148 (by decide) (by kernel_rfl) rfl rfl),
               step_pick rfl (.inl rfl) (b := true) rfl rfl (knows_in 2 147 (by decide) (by kernel_rfl) rfl rfl) (knows_in 4 149 (by decide) (by kernel_rfl) rfl rfl),
               step_mvP rfl (.inl rfl) rfl rfl (knows_in 5 150 (by decide) (by kernel_rfl) rfl rfl),
               step_ldV rfl (.inr ⟨6, true, 151, rfl, by decide, by kernel_rfl, rfl, fun _ _ h => h⟩) (fun _ hw => (h15.next hw).range) rfl Tryd.underlying30 rfl (szV infS32 (il HNL.out)) rfl (knows_out 15 (by kernel_rfl) rfl),
               step_ldV rfl (.inr ⟨6, true, 151, rfl, by decide, by kernel_rfl, rfl, fun _ _ h => h⟩) (fun _ hw => (h7.next hw).range) rfl Tryd.underlying30 rfl (szV infS32 (il HNL.out)) rfl (knows_out 7 (by kernel_rfl) rfl),
               step_eqA rfl (.inr ⟨6, true, 151, rfl, by decide, by kernel_rfl, rfl, fun _ _ h => h⟩) rfl eqV32 HNL.out HNL.out (decide_eq_true rfl) rfl (knows_in 7 152 (by decide) (by kernel_rfl) rfl rfl) (knows_in 8 153 (by decide) (by kernel_rfl) rfl rfl),
               step_pick rfl (.inl rfl) (b := true) rfl rfl (knows_in 6 151 (by decide) (by kernel_rfl) rfl rfl) (knows_in 9 154 (by decide) (by kernel_rfl) rfl rfl),
               step_mvP rfl (.inl rfl) rfl rfl (knows_in 10 155 (by decide) (by kernel_rfl) rfl rfl),
               step_mvP rfl (.inr ⟨11, true, 156, rfl, by decide, by kernel_rfl, rfl, fun _ _ h => h⟩) rfl rfl (knows_out 2 (by kernel_rfl) rfl),
               step_mvP rfl (.inr ⟨11, true, 156, rfl, by decide, by kernel_rfl, rfl, fun _ _ h => h⟩) rfl rfl (knows_out 1 (by kernel_rfl) rfl),
               (step_ex (.bool false) rfl (.inr ⟨11, true, 156, rfl, by decide, by kernel_rfl, rfl, fun _ _ h => h⟩) rfl fun a ww hw hf hd => by
                   have h0 : a.eval (.tmp 157) = (.int .i64 (K : Int)) := ((knows_in 12 157 (by decide) (by kernel_rfl) rfl rfl) : Knows _ _ w50 _ 27 _ 14 _ (.int .i64 (K : Int))) a ww hw hf hd
                   have h1 : a.eval (.tmp 158) = (.int .i64 (n : Int)) := ((knows_in 13 158 (by decide) (by kernel_rfl) rfl rfl) : Knows _ _ w50 _ 27 _ 14 _ (.int .i64 (n : Int))) a ww hw hf hd
                   revert h0 h1
                   generalize a.eval = ev
                   intro h0 h1
                   unfold execOp
                   simp only [h0, h1]
                   go_simp),
               step_mvP rfl (.inr ⟨11, true, 156, rfl, by decide, by kernel_rfl, rfl, fun _ _ h => h⟩) rfl rfl (knows_in 14 159 (by decide) (by kernel_rfl) rfl rfl),
               step_mvP rfl (.inr ⟨15, false, 160, rfl, by decide, by kernel_rfl, rfl, fun _ _ h => h⟩) rfl rfl (knows_out 9 (by kernel_rfl) rfl),
               step_mvP rfl (.inr ⟨15, false, 160, rfl, by decide, by kernel_rfl, rfl, fun _ _ h => h⟩) rfl rfl (knows_out 1 (by kernel_rfl) rfl),
               (step_ex (.int .i64 ((n - 1 : Nat) : Int)) rfl (.inr ⟨15, false, 160, rfl, by decide, by kernel_rfl, rfl, fun _ _ h => h⟩) rfl fun a ww hw hf hd => by
                   have h0 : a.eval (.tmp 162) = (.int .i64 (n : Int)) := ((knows_in 17 162 (by decide) (by kernel_rfl) rfl rfl) : Knows _ _ w50 _ 27 _ 18 _ (.int .i64 (n : Int))) a ww hw hf hd
                   have h1 : a.eval (.const (.int .i64 1)) = (.int .i64 1) := rfl
                   revert h0 h1
                   generalize a.eval = ev
                   intro h0 h1
                   unfold execOp
                   simp only [h0, h1]
                   go_simp),
               step_mvP rfl (.inr ⟨15, false, 160, rfl, by decide, by kernel_rfl, rfl, fun _ _ h => h⟩) rfl rfl (knows_out 2 (by kernel_rfl) rfl),
               (step_ex (.int .i64 ((n - 1 - K : Nat) : Int)) rfl (.inr ⟨15, false, 160, rfl, by decide, by kernel_rfl, rfl, fun _ _ h => h⟩) rfl fun a ww hw hf hd => by
                   have h0 : a.eval (.tmp 163) = (.int .i64 ((n - 1 : Nat) : Int)) := ((knows_in 18 163 (by decide) (by kernel_rfl) rfl rfl) : Knows _ _ w50 _ 27 _ 20 _ (.int .i64 ((n - 1 : Nat) : Int))) a ww hw hf hd
                   have h1 : a.eval (.tmp 164) = (.int .i64 (K : Int)) := ((knows_in 19 164 (by decide) (by kernel_rfl) rfl rfl) : Knows _ _ w50 _ 27 _ 20 _ (.int .i64 (K : Int))) a ww hw hf hd
                   revert h0 h1
                   generalize a.eval = ev
                   intro h0 h1
                   unfold execOp
                   simp only [h0, h1]
                   go_simp),
               (step_ex (.pointer (some ⟨gc, ((n - 1 - K) * 32), none⟩)) rfl (.inr ⟨15, false, 160, rfl, by decide, by kernel_rfl, rfl, fun _ _ h => h⟩) rfl fun a ww hw hf hd => by
                   have h0 : a.eval (.tmp 161) = (.slice (some ⟨gc, 0, none⟩) n n) := ((knows_in 16 161 (by decide) (by kernel_rfl) rfl rfl) : Knows _ _ w50 _ 27 _ 21 _ (.slice (some ⟨gc, 0, none⟩) n n)) a ww hw hf hd
                   have h1 : a.eval (.tmp 165) = (.int .i64 ((n - 1 - K : Nat) : Int)) := ((knows_in 20 165 (by decide) (by kernel_rfl) rfl rfl) : Knows _ _ w50 _ 27 _ 21 _ (.int .i64 ((n - 1 - K : Nat) : Int))) a ww hw hf hd
                   revert h0 h1
                   generalize a.eval = ev
                   intro h0 h1
                   unfold execOp
                   simp only [h0, h1]
                   go_simp),
               step_ldV rfl (.inr ⟨15, false, 160, rfl, by decide, by kernel_rfl, rfl, fun _ _ h => h⟩) (fun _ hw => ((hM.next hw)).range) rfl Tryd.underlying30 rfl (szV infS32 (il HKL.out)) rfl (knows_in 21 166 (by decide) (by kernel_rfl) rfl rfl),
               step_ldV rfl (.inr ⟨15, false, 160, rfl, by decide, by kernel_rfl, rfl, fun _ _ h => h⟩) (fun _ hw => (h13.next hw).range) rfl Tryd.underlying30 rfl (szV infS32 (il HKL.out)) rfl (knows_out 13 (by kernel_rfl) rfl),
               step_eqA rfl (.inr ⟨15, false, 160, rfl, by decide, by kernel_rfl, rfl, fun _ _ h => h⟩) rfl eqV32 HKL.out HKL.out (decide_eq_true rfl) rfl (knows_in 22 167 (by decide) (by kernel_rfl) rfl rfl) (knows_in 23 168 (by decide) (by kernel_rfl) rfl rfl),
               step_pick rfl (.inr ⟨11, true, 156, rfl, by decide, by kernel_rfl, rfl, fun _ _ h => h⟩) (b := false) rfl rfl (knows_in 15 160 (by decide) (by kernel_rfl) rfl rfl) (knows_in 24 169 (by decide) (by kernel_rfl) rfl rfl),
               step_pick rfl (.inl rfl) (b := true) rfl rfl (knows_in 11 156 (by decide) (by kernel_rfl) rfl rfl) (knows_in 25 170 (by decide) (by kernel_rfl) rfl rfl), trivial⟩ ?_
            intro val w51 hw hS hap hla
            have e145 : val 145 = (.int .i64 0) := hS 0 145 (by decide) rfl
            have e146 : val 146 = (.bool true) := hS 1 146 (by decide) rfl
            have e147 : val 147 = (.bool true) := hS 2 147 (by decide) rfl
            have e148 : val 148 = (.int .i64 0) := hS 3 148 (by decide) rfl
            have e149 : val 149 = (.bool true) := hS 4 149 (by decide) rfl
            have e150 : val 150 = (.bool true) := hS 5 150 (by decide) rfl
            have e151 : val 151 = (.bool true) := hS 6 151 (by decide) rfl
            have e152 : val 152 = (.agg (ints .u8 sN).toArray) := hS 7 152 (by decide) rfl
            have e153 : val 153 = (.agg (ints .u8 sN).toArray) := hS 8 153 (by decide) rfl
            have e154 : val 154 = (.bool true) := hS 9 154 (by decide) rfl
            have e155 : val 155 = (.bool true) := hS 10 155 (by decide) rfl
            have e156 : val 156 = (.bool true) := hS 11 156 (by decide) rfl
            have e157 : val 157 = (.int .i64 (K : Int)) := hS 12 157 (by decide) rfl
            have e158 : val 158 = (.int .i64 (n : Int)) := hS 13 158 (by decide) rfl
            have e159 : val 159 = (.bool false) := hS 14 159 (by decide) rfl
            have e160 : val 160 = (.bool false) := hS 15 160 (by decide) rfl
            have e161 : val 161 = (.slice (some ⟨gc, 0, none⟩) n n) := hS 16 161 (by decide) rfl
            have e162 : val 162 = (.int .i64 (n : Int)) := hS 17 162 (by decide) rfl
            have e163 : val 163 = (.int .i64 ((n - 1 : Nat) : Int)) := hS 18 163 (by decide) rfl
            have e164 : val 164 = (.int .i64 (K : Int)) := hS 19 164 (by decide) rfl
            have e165 : val 165 = (.int .i64 ((n - 1 - K : Nat) : Int)) := hS 20 165 (by decide) rfl
            have e166 : val 166 = (.pointer (some ⟨gc, ((n - 1 - K) * 32), none⟩)) := hS 21 166 (by decide) rfl
            have e167 : val 167 = (.agg (ints .u8 xk).toArray) := hS 22 167 (by decide) rfl
            have e168 : val 168 = (.agg (ints .u8 xk).toArray) := hS 23 168 (by decide) rfl
            have e169 : val 169 = (.bool true) := hS 24 169 (by decide) rfl
            have e170 : val 170 = (.bool true) := hS 25 170 (by decide) rfl
            have e171 : val 171 = (.bool true) := hS 26 171 (by decide) rfl
            simp only [putVals, List.foldl_cons, List.foldl_nil, List.drop_succ_cons, List.drop_zero, Act.put, List.setIfInBounds_toArray, List.set_cons_succ, List.set_cons_zero, e145, e146, e147, e148, e149, e150, e151, e152, e153, e154, e155, e156, e157, e158, e159, e160, e161, e162, e163, e164, e165, e166, e167, e168, e169, e170, e171]
            clear hS hap hla e145 e146 e147 e148 e149 e150 e151 e152 e153 e154 e155 e156 e157 e158 e159 e160 e161 e162 e163 e164 e165 e166 e167 e168 e169 e170 e171 
            replace hW := hW.trans (Below.mono hw hW.size)
            clear hw
            go_wp2
            go_ret
            exact ⟨rfl, hW⟩
set_option maxRecDepth 50000 in
set_option maxHeartbeats 4000000 in
theorem back_some_h (st sN : List Int) (n : Nat) (k : Int) (w : World) (hT : TabsH w) (HSL : Hid (st.length = 32)) (hby : HByt st) (hn1 : 1 ≤ n) (hn40 : n ≤ 40) (h : 4096 < k) (HSN : Hid (backV st n = sN)) (HNL : Hid (sN.length = 32)) : Calls Tryd.prog 5 #[.agg (ints .u8 st).toArray, .int .i64 n, .int .i64 k] w fun e w' => e = .returned (.bool true) ∧ Below w.heap.size w w' := by
  obtain ⟨z32, s32⟩ := zero_of_info infS32
  have h3 := Rw.new w (ints .u8 st) 30
  have hW := below_new w (.cells (ints .u8 st).toArray 30)
  have hTi := hT
  replace hT := hT.next hW
  have HL : Hid (∀ k, (backV st k).length = 32) := hid (backV_len HSL.out)
  have HB : Hid (∀ k, HByt (backV st k)) := hid (backV_byt hby)
  have en0 : decide ((40 : Int) < (n : Int)) = false := decide_eq_false (by omega)
  have en2 : decide ((n : Int) < 0) = false := decide_eq_false (by omega)
  have en3 : decide ((4096 : Int) < (n : Int)) = false := decide_eq_false (by omega)
  have enz : ((n : Int) == 0) = false := beq_false_of_ne (by omega)
  have e1 : (n : Int) - 1 = ((n - 1 : Nat) : Int) := by omega
  have i40 : (n : Int) ≤ 40 := by omega
  have w1n : IntKind.i64.wrap ((n - 1 : Nat) : Int) = ((n - 1 : Nat) : Int) := IntWalk.i64_in _ (by omega)
  have l1n : ¬ n ≤ n - 1 := by omega
  have ek0 : decide ((40 : Int) < k) = true := decide_eq_true (by omega)
  have ek1 : decide (k ≤ (4096 : Int)) = false := decide_eq_false (by omega)
  go_enter Tryd.func5, Tryd.ntmps5
  go_wp2_with (first
    | (go_at_call 6; generalize w.alloc (.cells (ints .u8 st).toArray 30) = w1 at *; refine (awake_any _ hT).mono ?_; rintro e w2 ⟨rfl, hb2⟩
       replace h3 := h3.next hb2
       replace hT := hT.next hb2
       replace hW := hW.trans (Below.mono hb2 hW.size)
       have r3 := h3.range
       clear hb2)
    | (with_reducible refine wpList_load_mid (op := ⟨some 34, .load 30 (.tmp 3), _, _, _, _⟩) rfl 30 (.tmp 3) rfl w.heap.size 0 rfl (ints .u8 st) _ r3 Tryd.underlying30 rfl (szV infS32 (il HSL.out)) ?_)
    | (go_at_call 14; clear r3; refine (back_any st n _ hT HSL.out hby (by omega)).mono ?_; rintro e w3 ⟨rfl, hb3⟩
       rw [HSN.out]
       have R7 := (Rw.new w3 (ints .u8 (hzeros 32)) 30).roomA (us := ints .u8 sN) ((il HNL.out).trans (il (hz_len 32)).symm)
       have h7 := (Rw.new w3 (ints .u8 (hzeros 32)) 30).storedA (us := ints .u8 sN) ((il HNL.out).trans (il (hz_len 32)).symm)
       have hb4 := hb3.trans (Below.mono (Below.setCells (below_new w3 (.cells (ints .u8 (hzeros 32)).toArray 30)) (Nat.le_refl _) 0 (ints .u8 sN).toArray.toList) hb3.size)
       replace h3 := h3.next hb4
       replace hT := hT.next hb4
       replace hW := hW.trans (Below.mono hb4 hW.size)
       have r3b := h3.range
       clear hb3 hb4)
    | (with_reducible refine wpList_store_mid (op := ⟨none, .store 30 (.tmp 7) (.tmp 37), _, _, _, _⟩) rfl 30 (.tmp 7) (.tmp 37) rfl w3.heap.size 0 (ints .u8 sN).toArray rfl rfl R7 (szA infS32 (il HNL.out)) (ints_all _ _) ?_
       generalize (w3.alloc (.cells (ints .u8 (hzeros 32)).toArray 30)).setCells w3.heap.size 0 (ints .u8 sN).toArray.toList = w5 at *
       generalize w3.heap.size = b7 at *
       clear R7)
    | (with_reducible refine wpList_load_mid (op := ⟨some 40, .load 30 (.tmp 3), _, _, _, _⟩) rfl 30 (.tmp 3) rfl w.heap.size 0 rfl (ints .u8 st) _ r3b Tryd.underlying30 rfl (szV infS32 (il HSL.out)) ?_)
    | (go_at_call 15; clear r3b; refine (chain_any st n _ hT HSL.out hby hn1 (by omega)).mono ?_; rintro e w4 ⟨gc, rfl, hK, hb5⟩
       replace h3 := h3.next hb5
       replace h7 := h7.next hb5
       replace hT := hT.next hb5
       replace hW := hW.trans (Below.mono hb5 hW.size)
       have r3c := h3.range
       have n3 : w.heap.size ≠ w4.heap.size := Nat.ne_of_lt (h3.lt (by rw [ints_length, HSL.out]; omega))
       have n7 : b7 ≠ w4.heap.size := Nat.ne_of_lt (h7.lt (by rw [ints_length, HNL.out]; omega))
       have ng : gc ≠ w4.heap.size := Nat.ne_of_lt ((hK 0 (Nat.le_refl _) (by omega)).lt (by rw [ints_length, HL.out]; omega))
       have hn4 := below_new w4 (.cells (ints .u8 (hzeros 32)).toArray 30)
       have R11 := (Rw.new w4 (ints .u8 (hzeros 32)) 30).roomA (us := ints .u8 st) ((il HSL.out).trans (il (hz_len 32)).symm)
       have h11 := (Rw.new w4 (ints .u8 (hzeros 32)) 30).storedA (us := ints .u8 st) ((il HSL.out).trans (il (hz_len 32)).symm)
       have hb6 := Below.setCells hn4 (Nat.le_refl _) 0 (ints .u8 st).toArray.toList
       have hlo : w.heap.size ≤ w4.heap.size := hW.size
       replace h3 := h3.next hb6
       replace h7 := h7.next hb6
       replace hK := hK.next hb6
       replace hT := hT.next hb6
       replace hW := hW.trans (Below.mono hb6 hW.size)
       clear hb5 hb6 hn4)
    | (with_reducible refine wpList_load_mid (op := ⟨some 67, .load 30 (.tmp 3), _, _, _, _⟩) rfl 30 (.tmp 3) rfl w.heap.size 0 rfl (ints .u8 st) _ r3c Tryd.underlying30 rfl (szV infS32 (il HSL.out)) ?_)
    | (with_reducible refine wpList_store_mid (op := ⟨none, .store 30 (.tmp 11) (.tmp 67), _, _, _, _⟩) rfl 30 (.tmp 11) (.tmp 67) rfl w4.heap.size 0 (ints .u8 st).toArray rfl rfl R11 (szA infS32 (il HSL.out)) (ints_all _ _) ?_
       generalize (w4.alloc (.cells (ints .u8 (hzeros 32)).toArray 30)).setCells w4.heap.size 0 (ints .u8 st).toArray.toList = w9 at *
       generalize w4.heap.size = b11 at *
       clear R11 r3c))
  go_loopw [69] (fun i wr => ∃ j : Nat, j ≤ n ∧ i = .int .i64 j ∧ Only b11 w9 wr ∧ Rw wr b11 0 (ints .u8 (backV st j))) (fun i _ => n - (intOf i).toNat)
  case atStart => exact ⟨0, Nat.zero_le _, rfl, Only.refl _ _, h11⟩
  case round =>
    clear h11
    obtain ⟨j, hj, rfl, hO, h11⟩ := hrel
    by_cases hlt : j < n
    · have j1 : (j : Int) < n := by omega
      obtain ⟨x, hx⟩ : ∃ x, backV st j = x := ⟨_, rfl⟩
      obtain ⟨y, hy⟩ : ∃ y, backV st (j + 1) = y := ⟨_, rfl⟩
      have HXL : Hid (x.length = 32) := hid (by rw [← hx]; exact HL.out j)
      have HYL : Hid (y.length = 32) := hid (by rw [← hy]; exact HL.out (j + 1))
      have HN : Hid (∀ w : World, Calls Tryd.prog 13 #[.agg (ints .u8 x).toArray] w fun e w' => e = .returned (.agg (ints .u8 y).toArray) ∧ Below w.heap.size w w') := hid fun w => by
        have h := rnext_any x w HXL.out (by rw [← hx]; exact HB.out j)
        have e : nextV x = y := by rw [← hx, ← hy]; rfl
        rw [e] at h
        exact h
      rw [hx] at h11
      have HY := hid hy
      have r11 := h11.range
      clear hx hy
      go_wp2_with (first
        | (with_reducible refine wpList_load_mid (op := ⟨some 71, .load 30 (.tmp 11), _, _, _, _⟩) rfl 30 (.tmp 11) rfl b11 0 rfl (ints .u8 x) _ r11 Tryd.underlying30 rfl (szV infS32 (il HXL.out)) ?_)
        | (go_at_call 13; refine (HN.out _).mono ?_; rintro e w10 ⟨rfl, hb10⟩
           replace h11 := h11.next hb10
           have R11 := h11.roomA (us := ints .u8 y) ((il HYL.out).trans (il HXL.out).symm)
           have X11 := h11.storedA (us := ints .u8 y) ((il HYL.out).trans (il HXL.out).symm)
           have hO2 := (hO.trans (Only.of hb10 b11)).setCells (.inl rfl) 0 (ints .u8 y).toArray.toList
           clear hb10 h11 hO r11)
        | (with_reducible refine wpList_store_mid (op := ⟨none, .store 30 (.tmp 11) (.tmp 72), _, _, _, _⟩) rfl 30 (.tmp 11) (.tmp 72) rfl b11 0 (ints .u8 y).toArray rfl rfl R11 (szA infS32 (il HYL.out)) (ints_all _ _) ?_
           clear R11
           generalize w10.setCells b11 0 (ints .u8 y).toArray.toList = w11 at *))
      go_roundw
      case rel => exact ⟨j + 1, by omega, by go_num, hO2, by rw [HY.out]; exact X11⟩
      case measure => simp [intOf]; omega
    · have e : n = j := by omega
      subst e
      rw [HSN.out] at h11
      replace h3 := h3.only hO n3
      replace h7 := h7.only hO n7
      replace hK := hK.only hO ng
      have hbO := hO.below hlo hW.size
      replace hW := hW.trans hbO
      replace hT : TabsH wr := hTi.next hW
      clear hO hbO hTi n3 n7 ng hlt hlo
      have ejj : decide ((n : Int) < (n : Int)) = false := decide_eq_false (by omega)
      generalize wr = w20 at *
      go_upto_region 14 with (fail)
      have s20 := hW.size
      refine region_seq2 7 172 (fun _ => false) [Is (.int .i64 0), Is (.bool false), Is (.bool false), Is (.agg (ints .u8 sN).toArray), Is (.agg (ints .u8 sN).toArray), Is (.bool false), Is (.bool false)] [74, 75, 76, 77, 78, 79, 80] (by kernel_rfl) (by kernel_rfl) (Nat.le_of_eq rfl) (grows_cons (Is.grows _) (grows_cons (Is.grows _) (grows_cons (Is.grows _) (grows_cons (Is.grows _) (grows_cons (Is.grows _) (grows_cons (Is.grows _) (grows_cons (Is.grows _) grows_nil)))))))
        ⟨step_mvP rfl (.inl rfl) rfl rfl (knows_out 8 (by kernel_rfl) rfl),
         step_neC rfl (.inl rfl) rfl Tryd.underlying31 rfl (by decide) (knows_in 0 74 (by decide) (by kernel_rfl) rfl rfl),
         step_mvP rfl (.inl rfl) rfl rfl (knows_in 1 75 (by decide) (by kernel_rfl) rfl rfl),
         step_ldV rfl (.inr ⟨2, false, 76, rfl, by decide, by kernel_rfl, rfl, fun _ _ h => h⟩) (fun _ hw => (h7.next hw).range) rfl Tryd.underlying30 rfl (szV infS32 (il HNL.out)) rfl (knows_out 7 (by kernel_rfl) rfl),
         step_ldV rfl (.inr ⟨2, false, 76, rfl, by decide, by kernel_rfl, rfl, fun _ _ h => h⟩) (fun _ hw => (h11.next hw).range) rfl Tryd.underlying30 rfl (szV infS32 (il HNL.out)) rfl (knows_out 11 (by kernel_rfl) rfl),
         step_neA rfl (.inr ⟨2, false, 76, rfl, by decide, by kernel_rfl, rfl, fun _ _ h => h⟩) rfl eqV32 HNL.out HNL.out (decide_eq_true rfl) rfl (knows_in 3 77 (by decide) (by kernel_rfl) rfl rfl) (knows_in 4 78 (by decide) (by kernel_rfl) rfl rfl),
         step_pick rfl (.inl rfl) (b := false) rfl rfl (knows_in 2 76 (by decide) (by kernel_rfl) rfl rfl) (knows_in 5 79 (by decide) (by kernel_rfl) rfl rfl), trivial⟩ ?_
      intro val w21 hw hS hap hla
      have e74 : val 74 = (.int .i64 0) := hS 0 74 (by decide) rfl
      have e75 : val 75 = (.bool false) := hS 1 75 (by decide) rfl
      have e76 : val 76 = (.bool false) := hS 2 76 (by decide) rfl
      have e77 : val 77 = (.agg (ints .u8 sN).toArray) := hS 3 77 (by decide) rfl
      have e78 : val 78 = (.agg (ints .u8 sN).toArray) := hS 4 78 (by decide) rfl
      have e79 : val 79 = (.bool false) := hS 5 79 (by decide) rfl
      have e80 : val 80 = (.bool false) := hS 6 80 (by decide) rfl
      simp only [putVals, List.foldl_cons, List.foldl_nil, List.drop_succ_cons, List.drop_zero, Act.put, List.setIfInBounds_toArray, List.set_cons_succ, List.set_cons_zero, e74, e75, e76, e77, e78, e79, e80]
      clear hS hap hla e74 e75 e76 e77 e78 e79 e80 
      replace h3 := h3.next hw
      replace h7 := h7.next hw
      replace hK := hK.next hw
      replace hT := hT.next hw
      replace hW := hW.trans (Below.mono hw hW.size)
      clear hw
      go_upto_region 18 with (fail)
      have hL : Rw w21 gc ((n - 1) * 32) (ints .u8 st) := by
        have h := hK (n - 1) (by omega) (by omega)
        rw [show n - 1 - (n - 1) = 0 by omega] at h
        exact h
      have s21 := hW.size
      refine region_spec2 16 172 (fun _ => false) [Is (.int .i64 0), Is (.bool false), Is (.bool false), Is (.slice (some ⟨gc, 0, none⟩) n n), Is (.int .i64 (n : Nat)), Is (.int .i64 (n : Int)), Is (.bool false), Is (.bool false), Is (.bool false), Is (.slice (some ⟨gc, 0, none⟩) n n), Is (.int .i64 (n : Int)), Is (.int .i64 ((n - 1 : Nat) : Int)), Is (.pointer (some ⟨gc, ((n - 1) * 32), none⟩)), Is (.agg (ints .u8 st).toArray), Is (.agg (ints .u8 st).toArray), Is (.bool false)] [90, 91, 92, 93, 94, 95, 96, 97, 98, 99, 100, 101, 102, 103, 104, 105] (by kernel_rfl) (by kernel_rfl) (by kernel_rfl) (Nat.le_of_eq rfl) (grows_cons (Is.grows _) (grows_cons (Is.grows _) (grows_cons (Is.grows _) (grows_cons (Is.grows _) (grows_cons (Is.grows _) (grows_cons (Is.grows _) (grows_cons (Is.grows _) (grows_cons (Is.grows _) (grows_cons (Is.grows _) (grows_cons (Is.grows _) (grows_cons (Is.grows _) (grows_cons (Is.grows _) (grows_cons (Is.grows _) (grows_cons (Is.grows _) (grows_cons (Is.grows _) (grows_cons (Is.grows _) grows_nil))))))))))))))))
        ⟨step_mvP rfl (.inl rfl) rfl rfl (knows_out 10 (by kernel_rfl) rfl),
         step_neC rfl (.inl rfl) rfl Tryd.underlying31 rfl (by decide) (knows_in 0 90 (by decide) (by kernel_rfl) rfl rfl),
         step_mvP rfl (.inl rfl) rfl rfl (knows_in 1 91 (by decide) (by kernel_rfl) rfl rfl),
         step_mvP rfl (.inr ⟨2, false, 92, rfl, by decide, by kernel_rfl, rfl, fun _ _ h => h⟩) rfl rfl (knows_out 9 (by kernel_rfl) rfl),
         step_len rfl (.inr ⟨2, false, 92, rfl, by decide, by kernel_rfl, rfl, fun _ _ h => h⟩) uaVc rfl rfl (knows_in 3 93 (by decide) (by kernel_rfl) rfl rfl),
         step_mvP rfl (.inr ⟨2, false, 92, rfl, by decide, by kernel_rfl, rfl, fun _ _ h => h⟩) rfl rfl (knows_out 1 (by kernel_rfl) rfl),
         (step_ex (.bool false) rfl (.inr ⟨2, false, 92, rfl, by decide, by kernel_rfl, rfl, fun _ _ h => h⟩) rfl fun a ww hw hf hd => by
             have h0 : a.eval (.tmp 94) = (.int .i64 (n : Nat)) := ((knows_in 4 94 (by decide) (by kernel_rfl) rfl rfl) : Knows _ _ w21 _ 16 _ 6 _ (.int .i64 (n : Nat))) a ww hw hf hd
             have h1 : a.eval (.tmp 95) = (.int .i64 (n : Int)) := ((knows_in 5 95 (by decide) (by kernel_rfl) rfl rfl) : Knows _ _ w21 _ 16 _ 6 _ (.int .i64 (n : Int))) a ww hw hf hd
             revert h0 h1
             generalize a.eval = ev
             intro h0 h1
             unfold execOp
             simp only [h0, h1]
             go_simp),
         step_pick rfl (.inl rfl) (b := false) rfl rfl (knows_in 2 92 (by decide) (by kernel_rfl) rfl rfl) (knows_in 6 96 (by decide) (by kernel_rfl) rfl rfl),
         step_mvP rfl (.inl rfl) rfl rfl (knows_in 7 97 (by decide) (by kernel_rfl) rfl rfl),
         step_mvP rfl (.inr ⟨8, false, 98, rfl, by decide, by kernel_rfl, rfl, fun _ _ h => h⟩) rfl rfl (knows_out 9 (by kernel_rfl) rfl),
         step_mvP rfl (.inr ⟨8, false, 98, rfl, by decide, by kernel_rfl, rfl, fun _ _ h => h⟩) rfl rfl (knows_out 1 (by kernel_rfl) rfl),
         (step_ex (.int .i64 ((n - 1 : Nat) : Int)) rfl (.inr ⟨8, false, 98, rfl, by decide, by kernel_rfl, rfl, fun _ _ h => h⟩) rfl fun a ww hw hf hd => by
             have h0 : a.eval (.tmp 100) = (.int .i64 (n : Int)) := ((knows_in 10 100 (by decide) (by kernel_rfl) rfl rfl) : Knows _ _ w21 _ 16 _ 11 _ (.int .i64 (n : Int))) a ww hw hf hd
             have h1 : a.eval (.const (.int .i64 1)) = (.int .i64 1) := rfl
             revert h0 h1
             generalize a.eval = ev
             intro h0 h1
             unfold execOp
             simp only [h0, h1]
             go_simp),
         (step_ex (.pointer (some ⟨gc, ((n - 1) * 32), none⟩)) rfl (.inr ⟨8, false, 98, rfl, by decide, by kernel_rfl, rfl, fun _ _ h => h⟩) rfl fun a ww hw hf hd => by
             have h0 : a.eval (.tmp 99) = (.slice (some ⟨gc, 0, none⟩) n n) := ((knows_in 9 99 (by decide) (by kernel_rfl) rfl rfl) : Knows _ _ w21 _ 16 _ 12 _ (.slice (some ⟨gc, 0, none⟩) n n)) a ww hw hf hd
             have h1 : a.eval (.tmp 101) = (.int .i64 ((n - 1 : Nat) : Int)) := ((knows_in 11 101 (by decide) (by kernel_rfl) rfl rfl) : Knows _ _ w21 _ 16 _ 12 _ (.int .i64 ((n - 1 : Nat) : Int))) a ww hw hf hd
             revert h0 h1
             generalize a.eval = ev
             intro h0 h1
             unfold execOp
             simp only [h0, h1]
             go_simp),
         step_ldV rfl (.inr ⟨8, false, 98, rfl, by decide, by kernel_rfl, rfl, fun _ _ h => h⟩) (fun _ hw => ((hL.next hw)).range) rfl Tryd.underlying30 rfl (szV infS32 (il HSL.out)) rfl (knows_in 12 102 (by decide) (by kernel_rfl) rfl rfl),
         step_ldV rfl (.inr ⟨8, false, 98, rfl, by decide, by kernel_rfl, rfl, fun _ _ h => h⟩) (fun _ hw => (h3.next hw).range) rfl Tryd.underlying30 rfl (szV infS32 (il HSL.out)) rfl (knows_out 3 (by kernel_rfl) rfl),
         step_neA rfl (.inr ⟨8, false, 98, rfl, by decide, by kernel_rfl, rfl, fun _ _ h => h⟩) rfl eqV32 HSL.out HSL.out (decide_eq_true rfl) rfl (knows_in 13 103 (by decide) (by kernel_rfl) rfl rfl) (knows_in 14 104 (by decide) (by kernel_rfl) rfl rfl), trivial⟩ ?_
      intro val w22 hw hS hap hla
      have e90 : val 90 = (.int .i64 0) := hS 0 90 (by decide) rfl
      have e91 : val 91 = (.bool false) := hS 1 91 (by decide) rfl
      have e92 : val 92 = (.bool false) := hS 2 92 (by decide) rfl
      have e93 : val 93 = (.slice (some ⟨gc, 0, none⟩) n n) := hS 3 93 (by decide) rfl
      have e94 : val 94 = (.int .i64 (n : Nat)) := hS 4 94 (by decide) rfl
      have e95 : val 95 = (.int .i64 (n : Int)) := hS 5 95 (by decide) rfl
      have e96 : val 96 = (.bool false) := hS 6 96 (by decide) rfl
      have e97 : val 97 = (.bool false) := hS 7 97 (by decide) rfl
      have e98 : val 98 = (.bool false) := hS 8 98 (by decide) rfl
      have e99 : val 99 = (.slice (some ⟨gc, 0, none⟩) n n) := hS 9 99 (by decide) rfl
      have e100 : val 100 = (.int .i64 (n : Int)) := hS 10 100 (by decide) rfl
      have e101 : val 101 = (.int .i64 ((n - 1 : Nat) : Int)) := hS 11 101 (by decide) rfl
      have e102 : val 102 = (.pointer (some ⟨gc, ((n - 1) * 32), none⟩)) := hS 12 102 (by decide) rfl
      have e103 : val 103 = (.agg (ints .u8 st).toArray) := hS 13 103 (by decide) rfl
      have e104 : val 104 = (.agg (ints .u8 st).toArray) := hS 14 104 (by decide) rfl
      have e105 : val 105 = (.bool false) := hS 15 105 (by decide) rfl
      simp only [putVals, List.foldl_cons, List.foldl_nil, List.drop_succ_cons, List.drop_zero, Act.put, List.setIfInBounds_toArray, List.set_cons_succ, List.set_cons_zero, e90, e91, e92, e93, e94, e95, e96, e97, e98, e99, e100, e101, e102, e103, e104, e105]
      clear hS hap hla e90 e91 e92 e93 e94 e95 e96 e97 e98 e99 e100 e101 e102 e103 e104 e105 
      replace h3 := h3.next hw
      replace h7 := h7.next hw
      replace hK := hK.next hw
      replace hT := hT.next hw
      replace hW := hW.trans (Below.mono hw hW.size)
      clear hw
      clear hL
      go_wp2
      go_loopw [12] (fun i wr => ∃ q : Nat, q ≤ n - 1 ∧ i = .int .i64 q ∧ Below w22.heap.size w22 wr) (fun i _ => (intOf i).toNat)
      case atStart => exact ⟨n - 1, Nat.le_refl _, rfl, Below.refl _ _⟩
      case round =>
        obtain ⟨q, hq, rfl, hb⟩ := hrel
        by_cases hq0 : 0 < q
        · obtain ⟨p, hpq⟩ : ∃ p, q = p + 1 := ⟨q - 1, by omega⟩
          obtain ⟨x0, hx0e⟩ : ∃ x, backV st (n - 1 - q) = x := ⟨_, rfl⟩
          obtain ⟨x1, hx1e⟩ : ∃ x, backV st (n - 1 - p) = x := ⟨_, rfl⟩
          have H0L : Hid (x0.length = 32) := hid (by rw [← hx0e]; exact HL.out _)
          have H1L : Hid (x1.length = 32) := hid (by rw [← hx1e]; exact HL.out _)
          have HRN : Hid (∀ w : World, Calls Tryd.prog 13 #[.agg (ints .u8 x0).toArray] w fun e w' => e = .returned (.agg (ints .u8 x1).toArray) ∧ Below w.heap.size w w') := hid fun w => by
            have h := rnext_any x0 w H0L.out (by rw [← hx0e]; exact HB.out _)
            have e : nextV x0 = x1 := by rw [← hx0e, ← hx1e, show n - 1 - p = n - 1 - q + 1 by omega]; rfl
            rw [e] at h
            exact h
          have hx0 := (hK.next hb) q (by omega) (by omega)
          have hx1 := (hK.next hb) p (by omega) (by omega)
          rw [hx0e] at hx0
          rw [hx1e] at hx1
          have hWr := hW.trans (Below.mono hb hW.size)
          have p1 : (q : Int) - 1 = (p : Int) := by omega
          have p2 : (p : Int) < n := by omega
          have p3 : (q : Int) < n := by omega
          have p4 : (0 : Int) < (q : Int) := by omega
          have p5 : (0 : Int) ≤ (p : Int) := by omega
          have p6 : IntKind.i64.wrap (p : Int) = (p : Int) := IntWalk.i64_in _ (by omega)
          have p7 : ¬ n ≤ p := by omega
          have p8 : ¬ n ≤ q := by omega
          have HPQ := hid hpq
          clear hx0e hx1e hpq hq0 h3 h7 hK hT h11
          have hW0 := hW
          replace hW := hWr
          clear hWr
          generalize wr = w30 at *
          go_upto_region 23 with (fail)
          have s30 := hW.size
          refine region_spec2 10 172 (fun _ => false) [Is (.slice (some ⟨gc, 0, none⟩) n n), Is (.int .i64 (q : Int)), Is (.int .i64 (p : Int)), Is (.pointer (some ⟨gc, (p * 32), none⟩)), Is (.agg (ints .u8 x1).toArray), Is (.slice (some ⟨gc, 0, none⟩) n n), Is (.int .i64 (q : Int)), Is (.pointer (some ⟨gc, (q * 32), none⟩)), Is (.agg (ints .u8 x0).toArray), Is (.agg (ints .u8 x1).toArray)] [113, 114, 115, 116, 117, 118, 119, 120, 121, 122] (by kernel_rfl) (by kernel_rfl) (by kernel_rfl) (Nat.le_of_eq rfl) (grows_cons (Is.grows _) (grows_cons (Is.grows _) (grows_cons (Is.grows _) (grows_cons (Is.grows _) (grows_cons (Is.grows _) (grows_cons (Is.grows _) (grows_cons (Is.grows _) (grows_cons (Is.grows _) (grows_cons (Is.grows _) (grows_cons (Is.grows _) grows_nil))))))))))
            ⟨step_mvP rfl (.inl rfl) rfl rfl (knows_out 9 (by kernel_rfl) rfl),
             step_mvP rfl (.inl rfl) rfl rfl (knows_out 12 (by kernel_rfl) rfl),
             (step_ex (.int .i64 (p : Int)) rfl (.inl rfl) rfl fun a ww hw hf hd => by
                 have h0 : a.eval (.tmp 114) = (.int .i64 (q : Int)) := ((knows_in 1 114 (by decide) (by kernel_rfl) rfl rfl) : Knows _ _ w30 _ 10 _ 2 _ (.int .i64 (q : Int))) a ww hw hf hd
                 have h1 : a.eval (.const (.int .i64 1)) = (.int .i64 1) := rfl
                 revert h0 h1
                 generalize a.eval = ev
                 intro h0 h1
                 unfold execOp
                 simp only [h0, h1]
                 go_simp),
             (step_ex (.pointer (some ⟨gc, (p * 32), none⟩)) rfl (.inl rfl) rfl fun a ww hw hf hd => by
                 have h0 : a.eval (.tmp 113) = (.slice (some ⟨gc, 0, none⟩) n n) := ((knows_in 0 113 (by decide) (by kernel_rfl) rfl rfl) : Knows _ _ w30 _ 10 _ 3 _ (.slice (some ⟨gc, 0, none⟩) n n)) a ww hw hf hd
                 have h1 : a.eval (.tmp 115) = (.int .i64 (p : Int)) := ((knows_in 2 115 (by decide) (by kernel_rfl) rfl rfl) : Knows _ _ w30 _ 10 _ 3 _ (.int .i64 (p : Int))) a ww hw hf hd
                 revert h0 h1
                 generalize a.eval = ev
                 intro h0 h1
                 unfold execOp
                 simp only [h0, h1]
                 go_simp),
             step_ldV rfl (.inl rfl) (fun _ hw => ((hx1.next hw)).range) rfl Tryd.underlying30 rfl (szV infS32 (il H1L.out)) rfl (knows_in 3 116 (by decide) (by kernel_rfl) rfl rfl),
             step_mvP rfl (.inl rfl) rfl rfl (knows_out 9 (by kernel_rfl) rfl),
             step_mvP rfl (.inl rfl) rfl rfl (knows_out 12 (by kernel_rfl) rfl),
             (step_ex (.pointer (some ⟨gc, (q * 32), none⟩)) rfl (.inl rfl) rfl fun a ww hw hf hd => by
                 have h0 : a.eval (.tmp 118) = (.slice (some ⟨gc, 0, none⟩) n n) := ((knows_in 5 118 (by decide) (by kernel_rfl) rfl rfl) : Knows _ _ w30 _ 10 _ 7 _ (.slice (some ⟨gc, 0, none⟩) n n)) a ww hw hf hd
                 have h1 : a.eval (.tmp 119) = (.int .i64 (q : Int)) := ((knows_in 6 119 (by decide) (by kernel_rfl) rfl rfl) : Knows _ _ w30 _ 10 _ 7 _ (.int .i64 (q : Int))) a ww hw hf hd
                 revert h0 h1
                 generalize a.eval = ev
                 intro h0 h1
                 unfold execOp
                 simp only [h0, h1]
                 go_simp),
             step_ldV rfl (.inl rfl) (fun _ hw => ((hx0.next hw)).range) rfl Tryd.underlying30 rfl (szV infS32 (il H0L.out)) rfl (knows_in 7 120 (by decide) (by kernel_rfl) rfl rfl),
             step_cw rfl (.inl rfl) rfl cx13 rfl (fun aa ww hw hf hd => ⟨_, (one_arg (knows_in 8 121 (by decide) (by kernel_rfl) rfl rfl)) aa ww hw hf hd, HRN.out ww⟩), trivial⟩ ?_
          intro val w31 hw hS hap hla
          have e113 : val 113 = (.slice (some ⟨gc, 0, none⟩) n n) := hS 0 113 (by decide) rfl
          have e114 : val 114 = (.int .i64 (q : Int)) := hS 1 114 (by decide) rfl
          have e115 : val 115 = (.int .i64 (p : Int)) := hS 2 115 (by decide) rfl
          have e116 : val 116 = (.pointer (some ⟨gc, (p * 32), none⟩)) := hS 3 116 (by decide) rfl
          have e117 : val 117 = (.agg (ints .u8 x1).toArray) := hS 4 117 (by decide) rfl
          have e118 : val 118 = (.slice (some ⟨gc, 0, none⟩) n n) := hS 5 118 (by decide) rfl
          have e119 : val 119 = (.int .i64 (q : Int)) := hS 6 119 (by decide) rfl
          have e120 : val 120 = (.pointer (some ⟨gc, (q * 32), none⟩)) := hS 7 120 (by decide) rfl
          have e121 : val 121 = (.agg (ints .u8 x0).toArray) := hS 8 121 (by decide) rfl
          have e122 : val 122 = (.agg (ints .u8 x1).toArray) := hS 9 122 (by decide) rfl
          simp only [putVals, List.foldl_cons, List.foldl_nil, List.drop_succ_cons, List.drop_zero, Act.put, List.setIfInBounds_toArray, List.set_cons_succ, List.set_cons_zero, e113, e114, e115, e116, e117, e118, e119, e120, e121, e122]
          clear hS hap hla e113 e114 e115 e116 e117 e118 e119 e120 e121 e122 
          replace hb := hb.trans (Below.mono hw hb.size)
          replace hW := hW.trans (Below.mono hw hW.size)
          clear hw
          with_reducible refine wpList_neA rfl (o := ⟨some 123, .binOp .neq 30 (.tmp 117) (.tmp 122) 30, _, _, _, _⟩) rfl eqV32 H1L.out H1L.out (decide_eq_true rfl) rfl rfl ?_
          go_wp2
          go_roundw
          case rel => exact ⟨p, by have := HPQ.out; omega, by go_num, hb⟩
          case measure => have := HPQ.out; simp [intOf]; omega
        · have e : q = 0 := by omega
          subst e
          replace h3 := h3.next hb
          replace h7 := h7.next hb
          replace hK := hK.next hb
          replace hT := hT.next hb
          replace hW := hW.trans (Below.mono hb hW.size)
          clear hb h11 hq hq0
          generalize wr = w40 at *
          have ek2 : decide (k < 0) = false := decide_eq_false (by omega)
          have ek3 : decide ((n : Int) < k) = true := decide_eq_true (by omega)
          clear h
          go_wp2
          go_ret
          exact ⟨rfl, hW⟩
end Go.Proofs.YtihipgojeikdkaaDoor
