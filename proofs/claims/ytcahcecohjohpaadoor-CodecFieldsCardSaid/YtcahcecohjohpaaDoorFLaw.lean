/- A list's items by their kinds: the walk, where they are of those kinds. -/
import Derived.Test.YtcahcecohjohpaaDoorMake
namespace Go.Proofs.YtcahcecohjohpaaDoor
open Go Go.RowKit

theorem Box4.row {w wr : World} {v0 v1 v2 v3 : Value} {t : TypeId} (h : Box4 w v0 v1 v2 v3 t wr) : Row wr w.heap.size [v0, v1, v2, v3] := fun i v hi => by
  obtain ⟨c0, c1, c2, c3⟩ := h.cells
  have hl := (List.getElem?_eq_some_iff.1 hi).1
  simp only [List.length_cons, List.length_nil] at hl
  refine ⟨?_, h.soft i⟩
  have hc : i = 0 ∨ i = 1 ∨ i = 2 ∨ i = 3 := by omega
  rcases hc with e | e | e | e <;> subst e <;> simp at hi <;> subst hi <;> assumption
theorem FieldsPost.yes {k : Int} {l : List V} {ks : List Int} {w w' : World} {e : Ending} (h : FieldsPost k l ks w e w') (hy : k = 3 ∧ kindsB l ks = true) : ∃ B' d, e = .returned (.tuple #[.slice B' l.length d, .bool true]) ∧ (∀ k n : Int, Has w'.heap.size w' (.mk k n [] l) none B') ∧ Below w.heap.size w w' := by
  rcases h with ⟨⟨_, B', d, h1, h2⟩ | ⟨hn, _⟩, hb⟩
  · exact ⟨B', d, h1, h2, hb⟩
  · exact absurd hy hn
theorem kindsB_at : ∀ (l : List V) (ks : List Int), kindsB l ks = true → l.length = ks.length ∧ ∀ (j : Nat) (x : V) (c : Int), l[j]? = some x → ks[j]? = some c → x.k = c
  | [], [], _ => ⟨rfl, fun j x c h _ => by simp at h⟩
  | [], _ :: _, h => by simp [kindsB] at h
  | _ :: _, [], h => by simp [kindsB] at h
  | x :: l, y :: ks, h => by
    rw [kindsB, Bool.and_eq_true] at h
    obtain ⟨h1, h2⟩ := kindsB_at l ks h.2
    refine ⟨by simp [h1], fun j z c hz hc => ?_⟩
    cases j with
    | zero => simp at hz hc; subst hz; subst hc; simpa using h.1
    | succ j => exact h2 j z c (by simpa using hz) (by simpa using hc)

set_option maxHeartbeats 400000 in
set_option maxRecDepth 100000 in
theorem fields_yes (k n : Int) (b : List Int) (l : List V) (A B : Option Addr) (c d : Nat) (k' n' : Int) (b' : List Int) (l' : List V) (A' B' : Option Addr) (c' d' : Nat) (K : Option Addr) (m : Nat) (ks : List Int) (w : World) (ht : Tabs w)
    (hf1 : Hid (fewV (.mk k n b l) = true)) (hf2 : Hid (fewV (.mk k' n' b' l') = true)) (hH : Has w.heap.size w (.mk k n b l) A B) (hH' : Has w.heap.size w (.mk k' n' b' l') A' B') (hl20 : ks.length ≤ 20) (hK : Nums w .i64 K ks) (h3 : k = 3) (HY : Hid (kindsB l ks = true)) :
    Calls Tryd.prog 5 #[.agg #[.int .i64 k, .int .i64 n, .slice A b.length c, .slice B l.length d], .agg #[.int .i64 k', .int .i64 n', .slice A' b'.length c', .slice B' l'.length d'], .slice K ks.length m] w fun e w' => e = .returned (.bool true) ∧ Below w.heap.size w w' := by
  have HFY : Hid (k = 3 ∧ kindsB l ks = true) := hid ⟨h3, HY.out⟩
  obtain ⟨hkl, hkat⟩ := kindsB_at l ks HY.out
  have HKL := hid hkl
  have HKA := hid hkat
  have hk3b : (k == 3) = true := by simp [h3]
  have hlb : ((l.length : Int) == (ks.length : Int)) = true := by simp [hkl]
  clear hkl hkat h3
  have hx := Box4.start w (.int .i64 k) (.int .i64 n) (.slice A b.length c) (.slice B l.length d) 25
  obtain ⟨W, hW⟩ : ∃ W, W = w.alloc (.cells #[.int .i64 k, .int .i64 n, .slice A b.length c, .slice B l.length d] 25) := ⟨_, rfl⟩
  have hy := Box4.start W (.int .i64 k') (.int .i64 n') (.slice A' b'.length c') (.slice B' l'.length d') 25
  have hWs : W.heap.size = w.heap.size + 1 := by rw [hW]; simp
  have HWS := hid hWs
  have hx0 : Box4 w (.int .i64 k) (.int .i64 n) (.slice A b.length c) (.slice B l.length d) 25 (W.alloc (.cells #[.int .i64 k', .int .i64 n', .slice A' b'.length c', .slice B' l'.length d'] 25)) := by
    rw [hW]; exact hx.next (below_new _ _)
  have hli : (ks.length : Int) ≤ 20 := by omega
  have hl1m : l.length ≤ 1000000 := by have := few_len hf1.out; omega
  have hlm := hH.len
  unfold maxLen at hlm
  rw [hW] at hy hx0
  have ht0 := ht.stay hx0.below
  go_enter Tryd.func5, Tryd.ntmps5
  go_wp2_with (first
    | (go_at_call 6; refine (awake_any _ ht0).mono ?_; rintro e w1 ⟨rfl, hb1⟩; have hx1 := hx0.next hb1; have hy1 := hy.next hb1; obtain ⟨c0, c1, c2, c3⟩ := hx1.cells; obtain ⟨c4, c5, c6, c7, c8⟩ := hy1.cells2)
    | (go_at_call 7; refine (few_any k' n' b' l' w.heap.size A' B' c' d' _ (hH'.stay hx2.below)).mono ?_; rintro e w3 ⟨rfl, hb3⟩; rw [hf2.out]; have hx3 := hx2.next hb3; have hy3 := hy2.next hb3; obtain ⟨e0, e1, e2, e3⟩ := hx3.cells; obtain ⟨e4, e5, e6, e7, e8⟩ := hy3.cells2)
    | (go_at_call 7; refine (few_any k n b l w.heap.size A B c d _ (hH.stay hx1.below)).mono ?_; rintro e w2 ⟨rfl, hb2⟩; rw [hf1.out]; have hx2 := hx1.next hb2; have hy2 := hy1.next hb2; obtain ⟨d0, d1, d2, d3⟩ := hx2.cells; obtain ⟨d4, d5, d6, d7, d8⟩ := hy2.cells2)
    | (go_at_call 18; refine ((fields_any k n b l w.heap.size A B K d c m ks _ hl1m (hH.stay hx3.below) (hK.below hx3.below)).mono fun _ _ h => h.yes HFY.out).mono ?_; rintro e w4 ⟨B4, d4, rfl, hH4, hb4⟩; have hx4 := hx3.next hb4; have hy4 := hy3.next hb4; obtain ⟨f0, f1, f2, f3⟩ := hx4.cells; obtain ⟨f4, f5, f6, f7, f8⟩ := hy4.cells2))
  go_loopw [9, 10] (fun q i wr => ∃ j : Nat, j ≤ ks.length ∧ q = .bool true ∧ i = .int .i64 j ∧ Below w4.heap.size w4 wr) (fun _ i _ => ks.length - (intOf i).toNat)
  case atStart => exact ⟨0, Nat.zero_le _, rfl, rfl, Below.refl _ _⟩
  case round =>
    obtain ⟨j, hj, rfl, rfl, hbw⟩ := hrel
    have hxr := hx4.next hbw
    have hyr := hy4.next hbw
    obtain ⟨c0, c1, c2, c3⟩ := hxr.cells
    obtain ⟨c4, c5, c6, c7, c8⟩ := hyr.cells2
    by_cases hlt : j < ks.length
    · obtain ⟨g, off, k1, n1, b1, l1, A1, c1', B1, d1', rfl, hg, _, HX, q0, q1, q2, q3, hX⟩ := (hH.stay hxr.below).item (show j < l.length by rw [HKL.out]; exact hlt)
      obtain ⟨g', off', x, rfl, hg', r0, HX'⟩ := (hK.below hxr.below).get hlt
      have hjp' : (j : Int) < ks.length := by omega
      have hjp : (j : Int) < l.length := by rw [HKL.out]; exact hjp'
      have hkx : (k1 == x) = true := by rw [beq_iff_eq]; exact HKA.out j _ x HX.out HX'.out
      go_wp2
      go_quiet (fail)
      go_wp2
      go_roundw
      case rel => exact ⟨j + 1, hlt, rfl, by go_num, below_drewN hbw _⟩
      case measure => simp [intOf]; omega
    · have e : j = ks.length := by omega
      subst e
      have hnl : decide ((ks.length : Int) < ks.length) = false := by simp
      go_wp2
      have hRa := hxr.row
      have hRb := hyr.row
      rw [World.size_alloc] at hRb
      have hHa := hH.stay hxr.below
      have hHb := hH'.stay hxr.below
      have hH5 := (hH4 0 0).stay hbw
      have hW := hxr.below
      clear c0 c1 c2 c3 c4 c5 c6 c7 c8 d0 d1 d2 d3 d5 d6 d7 d8 e0 e1 e2 e3 e4 e5 e6 e7 e8 f0 f1 f2 f3 f4 f5 f6 f7 f8 hx hy hx0 hx1 hy1 hx2 hy2 hx3 hy3 hx4 hy4 hxr hyr hbw hb4 hb3 hb2 hb1 hH4 ht0
      have s0 := hW.size
      refine region_spec2 23 164 (fun _ => false) [Is (.bool true), Is (.bool true), Is (.bool false), Is (.bool false), Is (.bool true), Is (.bool true), Is (.slice B4 l.length d4), LB l, Is (.pointer (some ⟨w.heap.size, 3, none⟩)), Is (.slice B l.length d), LB l, Is (.bool true), Is (.bool false), Is (.bool false), Is (.bool false), Is (.bool false), Is (.bool true), Is (.bool false), Is (.bool false), Is undef, Is undef, Is undef, Is (.bool false)] [66, 67, 68, 69, 70, 71, 72, 73, 74, 75, 76, 77, 78, 79, 80, 81, 82, 83, 84, 85, 86, 87, 88] (by kernel_rfl) (by kernel_rfl) (by kernel_rfl) (Nat.le_of_eq rfl) (grows_cons (Is.grows _) (grows_cons (Is.grows _) (grows_cons (Is.grows _) (grows_cons (Is.grows _) (grows_cons (Is.grows _) (grows_cons (Is.grows _) (grows_cons (Is.grows _) (grows_cons (LB.grows _) (grows_cons (Is.grows _) (grows_cons (Is.grows _) (grows_cons (LB.grows _) (grows_cons (Is.grows _) (grows_cons (Is.grows _) (grows_cons (Is.grows _) (grows_cons (Is.grows _) (grows_cons (Is.grows _) (grows_cons (Is.grows _) (grows_cons (Is.grows _) (grows_cons (Is.grows _) (grows_cons (Is.grows _) (grows_cons (Is.grows _) (grows_cons (Is.grows _) (grows_cons (Is.grows _) grows_nil)))))))))))))))))))))))
        ⟨step_mv rfl (.inl rfl) rfl rfl (knows_out 8 (by kernel_rfl) rfl),
         step_mv rfl (.inl rfl) rfl rfl (knows_out 9 (by kernel_rfl) rfl),
         step_neB rfl (.inl rfl) (p := true) (q := true) rfl rfl rfl (knows_in 0 66 (by decide) (by kernel_rfl) rfl rfl) (knows_in 1 67 (by decide) (by kernel_rfl) rfl rfl),
         step_mv rfl (.inl rfl) rfl rfl (knows_in 2 68 (by decide) (by kernel_rfl) rfl rfl),
         step_mv rfl (.inr ⟨3, false, 69, rfl, by decide, by kernel_rfl, rfl, fun _ _ h => h⟩) rfl rfl (knows_out 8 (by kernel_rfl) rfl),
         step_mv rfl (.inr ⟨3, false, 69, rfl, by decide, by kernel_rfl, rfl, fun _ _ h => h⟩) rfl rfl (knows_in 4 70 (by decide) (by kernel_rfl) rfl rfl),
         step_mv rfl (.inr ⟨5, true, 71, rfl, by decide, by kernel_rfl, rfl, fun _ _ h => h⟩) rfl rfl (knows_out 7 (by kernel_rfl) rfl),
         step_call1 (R := LL l) (T := LB l) (.inr ⟨5, true, 71, rfl, by decide, by kernel_rfl, rfl, fun _ _ h => h⟩) rfl cd19 rfl rfl ((knows_in 6 72 (by decide) (by kernel_rfl) rfl rfl).s fun w hw => LL.mk (hH5.stay hw)) (fun w u _ h => k_of hl1m h),
         step_fa rfl (.inr ⟨5, true, 71, rfl, by decide, by kernel_rfl, rfl, fun _ _ h => h⟩) 3 (by decide) rfl rfl (knows_out 3 (by kernel_rfl) rfl),
         step_list rfl (.inr ⟨5, true, 71, rfl, by decide, by kernel_rfl, rfl, fun _ _ h => h⟩) hRa (j := 3) rfl rfl rfl (knows_in 8 74 (by decide) (by kernel_rfl) rfl rfl),
         step_call1 (R := LL l) (T := LB l) (.inr ⟨5, true, 71, rfl, by decide, by kernel_rfl, rfl, fun _ _ h => h⟩) rfl cd19 rfl rfl ((knows_in 9 75 (by decide) (by kernel_rfl) rfl rfl).s fun w hw => LL.mk (hHa.stay hw)) (fun w u _ h => k_of hl1m h),
         step_call2 (R := LB l) (R' := LB l) (T := Is (.bool true)) (.inr ⟨5, true, 71, rfl, by decide, by kernel_rfl, rfl, fun _ _ h => h⟩) rfl cd17 rfl rfl (knowsS_in 7 73 (by decide) (by kernel_rfl) rfl rfl) (knowsS_in 10 76 (by decide) (by kernel_rfl) rfl rfl) (fun w u v _ h h' => by
            have hh := k_refSame h.v h'.v
            rw [sameV_refl] at hh
            exact hh),
         step_not rfl (.inr ⟨5, true, 71, rfl, by decide, by kernel_rfl, rfl, fun _ _ h => h⟩) (b := true) rfl rfl (knows_in 11 77 (by decide) (by kernel_rfl) rfl rfl),
         step_pick rfl (.inr ⟨3, false, 69, rfl, by decide, by kernel_rfl, rfl, fun _ _ h => h⟩) (b := true) rfl rfl (knows_in 5 71 (by decide) (by kernel_rfl) rfl rfl) (knows_in 12 78 (by decide) (by kernel_rfl) rfl rfl),
         step_pick rfl (.inl rfl) (b := false) rfl rfl (knows_in 3 69 (by decide) (by kernel_rfl) rfl rfl) (knows_in 13 79 (by decide) (by kernel_rfl) rfl rfl),
         step_mv rfl (.inl rfl) rfl rfl (knows_in 14 80 (by decide) (by kernel_rfl) rfl rfl),
         step_mv rfl (.inr ⟨15, false, 81, rfl, by decide, by kernel_rfl, rfl, fun _ _ h => h⟩) rfl rfl (knows_out 8 (by kernel_rfl) rfl),
         step_not rfl (.inr ⟨15, false, 81, rfl, by decide, by kernel_rfl, rfl, fun _ _ h => h⟩) (b := true) rfl rfl (knows_in 16 82 (by decide) (by kernel_rfl) rfl rfl),
         step_mv rfl (.inr ⟨15, false, 81, rfl, by decide, by kernel_rfl, rfl, fun _ _ h => h⟩) rfl rfl (knows_in 17 83 (by decide) (by kernel_rfl) rfl rfl),
         step_off rfl ⟨18, true, 84, rfl, by decide, by kernel_rfl, rfl, fun _ _ h => .inl h⟩ (fun _ => rfl),
         step_off rfl ⟨18, true, 84, rfl, by decide, by kernel_rfl, rfl, fun _ _ h => .inl h⟩ (fun _ => rfl),
         step_off rfl ⟨18, true, 84, rfl, by decide, by kernel_rfl, rfl, fun _ _ h => .inl h⟩ (fun _ => rfl),
         step_pick rfl (.inr ⟨15, false, 81, rfl, by decide, by kernel_rfl, rfl, fun _ _ h => h⟩) (b := false) rfl rfl (knows_in 18 84 (by decide) (by kernel_rfl) rfl rfl) (knows_const _), trivial⟩ ?_
      intro val w21 hw hS hap hla
      have e66 : val 66 = (.bool true) := hS 0 66 (by decide) rfl
      have e67 : val 67 = (.bool true) := hS 1 67 (by decide) rfl
      have e68 : val 68 = (.bool false) := hS 2 68 (by decide) rfl
      have e69 : val 69 = (.bool false) := hS 3 69 (by decide) rfl
      have e70 : val 70 = (.bool true) := hS 4 70 (by decide) rfl
      have e71 : val 71 = (.bool true) := hS 5 71 (by decide) rfl
      have e72 : val 72 = (.slice B4 l.length d4) := hS 6 72 (by decide) rfl
      obtain ⟨_, _, e73, _⟩ := hS 7 73 (by decide) rfl
      have e74 : val 74 = (.pointer (some ⟨w.heap.size, 3, none⟩)) := hS 8 74 (by decide) rfl
      have e75 : val 75 = (.slice B l.length d) := hS 9 75 (by decide) rfl
      obtain ⟨_, _, e76, _⟩ := hS 10 76 (by decide) rfl
      have e77 : val 77 = (.bool true) := hS 11 77 (by decide) rfl
      have e78 : val 78 = (.bool false) := hS 12 78 (by decide) rfl
      have e79 : val 79 = (.bool false) := hS 13 79 (by decide) rfl
      have e80 : val 80 = (.bool false) := hS 14 80 (by decide) rfl
      have e81 : val 81 = (.bool false) := hS 15 81 (by decide) rfl
      have e82 : val 82 = (.bool true) := hS 16 82 (by decide) rfl
      have e83 : val 83 = (.bool false) := hS 17 83 (by decide) rfl
      have e84 : val 84 = (.bool false) := hS 18 84 (by decide) rfl
      have e85 : val 85 = undef := hS 19 85 (by decide) rfl
      have e86 : val 86 = undef := hS 20 86 (by decide) rfl
      have e87 : val 87 = undef := hS 21 87 (by decide) rfl
      have e88 : val 88 = (.bool false) := hS 22 88 (by decide) rfl
      simp only [putVals, List.foldl_cons, List.foldl_nil, List.drop_succ_cons, List.drop_zero, Act.put, List.setIfInBounds_toArray, List.set_cons_succ, List.set_cons_zero, e66, e67, e68, e69, e70, e71, e72, e73, e74, e75, e76, e77, e78, e79, e80, e81, e82, e83, e84, e85, e86, e87, e88]
      clear hS hap hla e66 e67 e68 e69 e70 e71 e72 e73 e74 e75 e76 e77 e78 e79 e80 e81 e82 e83 e84 e85 e86 e87 e88
      replace hRa := hRa.next (by simp) hw
      replace hRb := hRb.next (by simp) hw
      replace hHa := hHa.stay hw
      replace hHb := hHb.stay hw
      replace hH5 := hH5.stay hw
      replace hW := hW.trans (Below.mono hw hW.size)
      clear hw
      clear hH5
      go_wp2_with (fail)
      have hNb := hHb.bytes.1.nums hHb.1
      have hlb2 : b'.length ≤ 2000000 := by have := few_len hf2.out; omega
      have hlbm : b'.length ≤ maxLen := hHb.bytes.2.2
      obtain ⟨sv, hsv0⟩ : ∃ sv, sameV (.mk k n b l) (.mk k' n' b' l') = sv := ⟨_, rfl⟩
      have hsv := hid hsv0
      clear hsv0
      have ltA := hRa.lt (by simp)
      have ltB := hRb.lt (by simp)
      have s1 := hW.size
      refine region_spec2 13 164 (fun i => (i == 5 && decide (0 < b'.length)) || i == 9 || i == 10 || i == 11 || i == 12) [Is (.pointer (some ⟨(w.heap.size + 1), 1, none⟩)), Is (.int .i64 n'), Is (.agg #[(.int .i64 1), (.int .i64 n'), (.slice none 0 0), (.slice none 0 0)]), Is (.pointer (some ⟨(w.heap.size + 1), 2, none⟩)), Is (.slice A' b'.length c'), RB2 w21.heap.size b', Is (.agg #[(.int .i64 k), (.int .i64 n), (.slice A b.length c), (.slice B l.length d)]), Is (.agg #[(.int .i64 k'), (.int .i64 n'), (.slice A' b'.length c'), (.slice B' l'.length d')]), SL2 w21.heap.size [(.int .i64 k), (.int .i64 n), (.slice A b.length c), (.slice B l.length d), (.int .i64 k'), (.int .i64 n'), (.slice A' b'.length c'), (.slice B' l'.length d')], LB2 w21.heap.size [(.int .i64 k), (.int .i64 n), (.slice A b.length c), (.slice B l.length d), (.int .i64 k'), (.int .i64 n'), (.slice A' b'.length c'), (.slice B' l'.length d')], IsZ25 w21.heap.size, IsZ25 w21.heap.size, IsZ25 w21.heap.size] [90, 91, 92, 93, 94, 95, 96, 97, 98, 99, 11, 12, 13] (by kernel_rfl) (by kernel_rfl) (by kernel_rfl) (Nat.le_of_eq rfl) (grows_cons (Is.grows _) (grows_cons (Is.grows _) (grows_cons (Is.grows _) (grows_cons (Is.grows _) (grows_cons (Is.grows _) (grows_cons (RB2.grows _ _) (grows_cons (Is.grows _) (grows_cons (Is.grows _) (grows_cons (SL2.grows _ _ (by simp)) (grows_cons (LB2.grows _ _) (grows_cons (IsZ25.grows _) (grows_cons (IsZ25.grows _) (grows_cons (IsZ25.grows _) grows_nil)))))))))))))
        ⟨step_fa rfl (.inl rfl) 1 (by decide) rfl rfl (knows_out 4 (by kernel_rfl) rfl),
         step_int rfl (.inl rfl) hRb (j := 1) rfl rfl rfl (knows_in 0 90 (by decide) (by kernel_rfl) rfl rfl),
         step_num rfl (.inl rfl) rfl rfl (knows_in 1 91 (by decide) (by kernel_rfl) rfl rfl),
         step_fa rfl (.inl rfl) 2 (by decide) rfl rfl (knows_out 4 (by kernel_rfl) rfl),
         step_bytes rfl (.inl rfl) hRb (j := 2) rfl rfl rfl (knows_in 3 93 (by decide) (by kernel_rfl) rfl rfl),
         step_raw2 (.inl rfl) (fun h => by simpa using h) rfl hlb2 hNb rfl (knows_in 4 94 (by decide) (by kernel_rfl) rfl rfl),
         step_load25 rfl (.inl rfl) hRa rfl rfl rfl (knows_out 3 (by kernel_rfl) rfl),
         step_load25 rfl (.inl rfl) hRb rfl rfl rfl (knows_out 4 (by kernel_rfl) rfl),
         step_two rfl (.inl rfl) rfl rfl (knows_in 6 96 (by decide) (by kernel_rfl) rfl rfl) (knows_in 7 97 (by decide) (by kernel_rfl) rfl rfl),
         step_of2 (.inl rfl) rfl (hHa.more hHa.1 (Nat.le_refl _)) (hHb.more hHb.1 (Nat.le_refl _)) rfl (knowsS_in 8 98 (by decide) (by kernel_rfl) rfl rfl),
         step_alloc25 (.inl rfl) rfl rfl,
         step_alloc25 (.inl rfl) rfl rfl,
         step_alloc25 (.inl rfl) rfl rfl, trivial⟩ ?_
      intro val w22 hw hS hap hla
      have e90 : val 90 = (.pointer (some ⟨(w.heap.size + 1), 1, none⟩)) := hS 0 90 (by decide) rfl
      have e91 : val 91 = (.int .i64 n') := hS 1 91 (by decide) rfl
      have e92 : val 92 = (.agg #[(.int .i64 1), (.int .i64 n'), (.slice none 0 0), (.slice none 0 0)]) := hS 2 92 (by decide) rfl
      have e93 : val 93 = (.pointer (some ⟨(w.heap.size + 1), 2, none⟩)) := hS 3 93 (by decide) rfl
      have e94 : val 94 = (.slice A' b'.length c') := hS 4 94 (by decide) rfl
      obtain ⟨B95, d95, e95, N95⟩ := hS 5 95 (by decide) rfl
      have e96 : val 96 = (.agg #[(.int .i64 k), (.int .i64 n), (.slice A b.length c), (.slice B l.length d)]) := hS 6 96 (by decide) rfl
      have e97 : val 97 = (.agg #[(.int .i64 k'), (.int .i64 n'), (.slice A' b'.length c'), (.slice B' l'.length d')]) := hS 7 97 (by decide) rfl
      obtain ⟨_, e98, _, _⟩ := hS 8 98 (by decide) rfl
      obtain ⟨g99, d99, e99, h99, hl99, hr99⟩ := hS 9 99 (by decide) rfl
      obtain ⟨b11, e11, L11, Z11⟩ := hS 10 11 (by decide) rfl
      obtain ⟨b12, e12, L12, Z12⟩ := hS 11 12 (by decide) rfl
      obtain ⟨b13, e13, L13, Z13⟩ := hS 12 13 (by decide) rfl
      have ne11_12 : b11 ≠ b12 := fun e => hap 10 11 11 12 (by decide) (by decide) rfl rfl (by decide) rfl rfl b11 (by rw [e11]; rfl) (by rw [e12, e]; rfl)
      have ne11_13 : b11 ≠ b13 := fun e => hap 10 12 11 13 (by decide) (by decide) rfl rfl (by decide) rfl rfl b11 (by rw [e11]; rfl) (by rw [e13, e]; rfl)
      have ne12_13 : b12 ≠ b13 := fun e => hap 11 12 12 13 (by decide) (by decide) rfl rfl (by decide) rfl rfl b12 (by rw [e12]; rfl) (by rw [e13, e]; rfl)
      have ng11 : b11 ≠ g99 := fun e => hap 10 9 11 99 (by decide) (by decide) rfl rfl (by decide) rfl rfl b11 (by rw [e11]; rfl) (by rw [e99, e]; rfl)
      have nr11 : 0 < b'.length → ∀ g o s, B95 = some ⟨g, o, s⟩ → b11 ≠ g := fun hp g o s h1 h2 => hap 5 10 95 11 (by decide) (by decide) (by simp [hp]) rfl (by decide) rfl rfl g (by rw [e95, h1]; rfl) (by rw [e11, h2]; rfl)
      have ng12 : b12 ≠ g99 := fun e => hap 11 9 12 99 (by decide) (by decide) rfl rfl (by decide) rfl rfl b12 (by rw [e12]; rfl) (by rw [e99, e]; rfl)
      have nr12 : 0 < b'.length → ∀ g o s, B95 = some ⟨g, o, s⟩ → b12 ≠ g := fun hp g o s h1 h2 => hap 5 11 95 12 (by decide) (by decide) (by simp [hp]) rfl (by decide) rfl rfl g (by rw [e95, h1]; rfl) (by rw [e12, h2]; rfl)
      have ng13 : b13 ≠ g99 := fun e => hap 12 9 13 99 (by decide) (by decide) rfl rfl (by decide) rfl rfl b13 (by rw [e13]; rfl) (by rw [e99, e]; rfl)
      have nr13 : 0 < b'.length → ∀ g o s, B95 = some ⟨g, o, s⟩ → b13 ≠ g := fun hp g o s h1 h2 => hap 5 12 95 13 (by decide) (by decide) (by simp [hp]) rfl (by decide) rfl rfl g (by rw [e95, h1]; rfl) (by rw [e13, h2]; rfl)
      simp only [putVals, List.foldl_cons, List.foldl_nil, List.drop_succ_cons, List.drop_zero, Act.put, List.setIfInBounds_toArray, List.set_cons_succ, List.set_cons_zero, e90, e91, e92, e93, e94, e95, e96, e97, e98, e99, e11, e12, e13]
      clear hS hap hla e90 e91 e92 e93 e94 e95 e96 e97 e98 e99 e11 e12 e13
      replace hRa := hRa.next (by simp) hw
      replace hRb := hRb.next (by simp) hw
      replace hHa := hHa.stay hw
      replace hHb := hHb.stay hw
      replace hNb := hNb.below hw
      replace hW := hW.trans (Below.mono hw hW.size)
      clear hw
      have hN95 := N95.nums
      have hfar : ∀ g o s, 0 < b'.length → A' = some ⟨g, o, s⟩ → ∀ q, w.heap.size ≤ q → q ≠ g := fun g o s hp h q hq e => by
        obtain ⟨g0, off, h1, h2, _⟩ := hHb.bytes.1 hp
        rw [h] at h1; injection h1 with h1; injection h1 with h1; omega
      have szW := hW.size
      have R11 : World.there w22 b11 0 (#[(.int .i64 1), (.int .i64 n'), (.slice none 0 0), (.slice none 0 0)] : Array Value).size := Z11.there
      have I11 : (Tryd.prog.info? 25).map (·.size) = some (#[(.int .i64 1), (.int .i64 n'), (.slice none 0 0), (.slice none 0 0)] : Array Value).size := info25s
      have O11 : (#[(.int .i64 1), (.int .i64 n'), (.slice none 0 0), (.slice none 0 0)] : Array Value).all (·.oneCell') = true := by simp [Value.oneCell']
      have hB11 := Z11.stored (vs := (#[(.int .i64 1), (.int .i64 n'), (.slice none 0 0), (.slice none 0 0)] : Array Value).toList) rfl
      replace Z12 := Z12.past (#[(.int .i64 1), (.int .i64 n'), (.slice none 0 0), (.slice none 0 0)] : Array Value).toList ne11_12
      replace Z13 := Z13.past (#[(.int .i64 1), (.int .i64 n'), (.slice none 0 0), (.slice none 0 0)] : Array Value).toList ne11_13
      replace hr99 := World.rangeAt_setCells_apart hr99 b11 0 (#[(.int .i64 1), (.int .i64 n'), (.slice none 0 0), (.slice none 0 0)] : Array Value).toList (.inl (Ne.symm ng11))
      replace hN95 := nums_past hN95 (#[(.int .i64 1), (.int .i64 n'), (.slice none 0 0), (.slice none 0 0)] : Array Value).toList nr11
      replace hRa := hRa.past (#[(.int .i64 1), (.int .i64 n'), (.slice none 0 0), (.slice none 0 0)] : Array Value).toList (show b11 ≠ _ by omega)
      replace hRb := hRb.past (#[(.int .i64 1), (.int .i64 n'), (.slice none 0 0), (.slice none 0 0)] : Array Value).toList (show b11 ≠ _ by omega)
      have hbl := below_cells (Below.refl w.heap.size w22) (g := b11) (by omega) 0 (#[(.int .i64 1), (.int .i64 n'), (.slice none 0 0), (.slice none 0 0)] : Array Value).toList
      replace hHa := hHa.grow hbl
      replace hHb := hHb.grow hbl
      replace hW := hW.trans hbl
      replace hNb := nums_past hNb (#[(.int .i64 1), (.int .i64 n'), (.slice none 0 0), (.slice none 0 0)] : Array Value).toList (fun hp g o s h => hfar g o s hp h b11 (by omega))
      clear hbl
      have R12 : World.there (w22.setCells b11 0 (#[(.int .i64 1), (.int .i64 n'), (.slice none 0 0), (.slice none 0 0)] : Array Value).toList) b12 0 (#[(.int .i64 2), (.int .i64 0), (.slice B95 b'.length d95), (.slice none 0 0)] : Array Value).size := Z12.there
      have I12 : (Tryd.prog.info? 25).map (·.size) = some (#[(.int .i64 2), (.int .i64 0), (.slice B95 b'.length d95), (.slice none 0 0)] : Array Value).size := info25s
      have O12 : (#[(.int .i64 2), (.int .i64 0), (.slice B95 b'.length d95), (.slice none 0 0)] : Array Value).all (·.oneCell') = true := by simp [Value.oneCell']
      have hB12 := Z12.stored (vs := (#[(.int .i64 2), (.int .i64 0), (.slice B95 b'.length d95), (.slice none 0 0)] : Array Value).toList) rfl
      replace hB11 := hB11.past (#[(.int .i64 2), (.int .i64 0), (.slice B95 b'.length d95), (.slice none 0 0)] : Array Value).toList (Ne.symm ne11_12)
      replace Z13 := Z13.past (#[(.int .i64 2), (.int .i64 0), (.slice B95 b'.length d95), (.slice none 0 0)] : Array Value).toList ne12_13
      replace hr99 := World.rangeAt_setCells_apart hr99 b12 0 (#[(.int .i64 2), (.int .i64 0), (.slice B95 b'.length d95), (.slice none 0 0)] : Array Value).toList (.inl (Ne.symm ng12))
      replace hN95 := nums_past hN95 (#[(.int .i64 2), (.int .i64 0), (.slice B95 b'.length d95), (.slice none 0 0)] : Array Value).toList nr12
      replace hRa := hRa.past (#[(.int .i64 2), (.int .i64 0), (.slice B95 b'.length d95), (.slice none 0 0)] : Array Value).toList (show b12 ≠ _ by omega)
      replace hRb := hRb.past (#[(.int .i64 2), (.int .i64 0), (.slice B95 b'.length d95), (.slice none 0 0)] : Array Value).toList (show b12 ≠ _ by omega)
      have hbl := below_cells (Below.refl w.heap.size (w22.setCells b11 0 (#[(.int .i64 1), (.int .i64 n'), (.slice none 0 0), (.slice none 0 0)] : Array Value).toList)) (g := b12) (by omega) 0 (#[(.int .i64 2), (.int .i64 0), (.slice B95 b'.length d95), (.slice none 0 0)] : Array Value).toList
      replace hHa := hHa.grow hbl
      replace hHb := hHb.grow hbl
      replace hW := hW.trans hbl
      replace hNb := nums_past hNb (#[(.int .i64 2), (.int .i64 0), (.slice B95 b'.length d95), (.slice none 0 0)] : Array Value).toList (fun hp g o s h => hfar g o s hp h b12 (by omega))
      clear hbl
      have R13 : World.there ((w22.setCells b11 0 (#[(.int .i64 1), (.int .i64 n'), (.slice none 0 0), (.slice none 0 0)] : Array Value).toList).setCells b12 0 (#[(.int .i64 2), (.int .i64 0), (.slice B95 b'.length d95), (.slice none 0 0)] : Array Value).toList) b13 0 (#[(.int .i64 3), (.int .i64 0), (.slice none 0 0), (.slice (some ⟨g99, 0, none⟩) 2 d99)] : Array Value).size := Z13.there
      have I13 : (Tryd.prog.info? 25).map (·.size) = some (#[(.int .i64 3), (.int .i64 0), (.slice none 0 0), (.slice (some ⟨g99, 0, none⟩) 2 d99)] : Array Value).size := info25s
      have O13 : (#[(.int .i64 3), (.int .i64 0), (.slice none 0 0), (.slice (some ⟨g99, 0, none⟩) 2 d99)] : Array Value).all (·.oneCell') = true := by simp [Value.oneCell']
      have hB13 := Z13.stored (vs := (#[(.int .i64 3), (.int .i64 0), (.slice none 0 0), (.slice (some ⟨g99, 0, none⟩) 2 d99)] : Array Value).toList) rfl
      replace hB11 := hB11.past (#[(.int .i64 3), (.int .i64 0), (.slice none 0 0), (.slice (some ⟨g99, 0, none⟩) 2 d99)] : Array Value).toList (Ne.symm ne11_13)
      replace hB12 := hB12.past (#[(.int .i64 3), (.int .i64 0), (.slice none 0 0), (.slice (some ⟨g99, 0, none⟩) 2 d99)] : Array Value).toList (Ne.symm ne12_13)
      replace hr99 := World.rangeAt_setCells_apart hr99 b13 0 (#[(.int .i64 3), (.int .i64 0), (.slice none 0 0), (.slice (some ⟨g99, 0, none⟩) 2 d99)] : Array Value).toList (.inl (Ne.symm ng13))
      replace hN95 := nums_past hN95 (#[(.int .i64 3), (.int .i64 0), (.slice none 0 0), (.slice (some ⟨g99, 0, none⟩) 2 d99)] : Array Value).toList nr13
      replace hRa := hRa.past (#[(.int .i64 3), (.int .i64 0), (.slice none 0 0), (.slice (some ⟨g99, 0, none⟩) 2 d99)] : Array Value).toList (show b13 ≠ _ by omega)
      replace hRb := hRb.past (#[(.int .i64 3), (.int .i64 0), (.slice none 0 0), (.slice (some ⟨g99, 0, none⟩) 2 d99)] : Array Value).toList (show b13 ≠ _ by omega)
      have hbl := below_cells (Below.refl w.heap.size ((w22.setCells b11 0 (#[(.int .i64 1), (.int .i64 n'), (.slice none 0 0), (.slice none 0 0)] : Array Value).toList).setCells b12 0 (#[(.int .i64 2), (.int .i64 0), (.slice B95 b'.length d95), (.slice none 0 0)] : Array Value).toList)) (g := b13) (by omega) 0 (#[(.int .i64 3), (.int .i64 0), (.slice none 0 0), (.slice (some ⟨g99, 0, none⟩) 2 d99)] : Array Value).toList
      replace hHa := hHa.grow hbl
      replace hHb := hHb.grow hbl
      replace hW := hW.trans hbl
      replace hNb := nums_past hNb (#[(.int .i64 3), (.int .i64 0), (.slice none 0 0), (.slice (some ⟨g99, 0, none⟩) 2 d99)] : Array Value).toList (fun hp g o s h => hfar g o s hp h b13 (by omega))
      clear hbl
      rw [← cells_size w22 b11 0 (#[(.int .i64 1), (.int .i64 n'), (.slice none 0 0), (.slice none 0 0)] : Array Value).toList, ← cells_size _ b12 0 (#[(.int .i64 2), (.int .i64 0), (.slice B95 b'.length d95), (.slice none 0 0)] : Array Value).toList, ← cells_size _ b13 0 (#[(.int .i64 3), (.int .i64 0), (.slice none 0 0), (.slice (some ⟨g99, 0, none⟩) 2 d99)] : Array Value).toList] at hl99
      obtain ⟨hq0, hq1⟩ := range_fst hr99
      go_wp2_with (first
        | (with_reducible refine wpList_store_mid (op := ⟨none, .store 25 (.tmp 11) (.tmp 92), _, _, _, _⟩) rfl 25 (.tmp 11) (.tmp 92) rfl b11 0 (#[(.int .i64 1), (.int .i64 n'), (.slice none 0 0), (.slice none 0 0)] : Array Value) rfl rfl R11 I11 O11 ?_)
        | (with_reducible refine wpList_store_mid (op := ⟨none, .store 25 (.tmp 12) (.tmp 95), _, _, _, _⟩) rfl 25 (.tmp 12) (.tmp 95) rfl b12 0 (#[(.int .i64 2), (.int .i64 0), (.slice B95 b'.length d95), (.slice none 0 0)] : Array Value) rfl rfl R12 I12 O12 ?_)
        | (with_reducible refine wpList_store_mid (op := ⟨none, .store 25 (.tmp 13) (.tmp 99), _, _, _, _⟩) rfl 25 (.tmp 13) (.tmp 99) rfl b13 0 (#[(.int .i64 3), (.int .i64 0), (.slice none 0 0), (.slice (some ⟨g99, 0, none⟩) 2 d99)] : Array Value) rfl rfl R13 I13 O13 ?_))
      generalize (((w22.setCells b11 0 [(.int .i64 1), (.int .i64 n'), (.slice none 0 0), (.slice none 0 0)]).setCells b12 0 [(.int .i64 2), (.int .i64 0), (.slice B95 b'.length d95), (.slice none 0 0)]).setCells b13 0 [(.int .i64 3), (.int .i64 0), (.slice none 0 0), (.slice (some ⟨g99, 0, none⟩) 2 d99)]) = w23 at *
      clear R11 R12 R13 Z11 Z12 Z13 I11 I12 I13 O11 O12 O13 nr11 nr12 nr13 ng11 ng12 ng13 ne11_12 ne11_13 ne12_13 hfar szW L11 L12 L13 hr99 N95
      have hB11' : Row w23 b11 [(.int .i64 1), (.int .i64 n'), (.slice none 0 0), (.slice none 0 0)] := hB11
      have hB12' : Row w23 b12 [(.int .i64 2), (.int .i64 0), (.slice B95 b'.length d95), (.slice none 0 0)] := hB12
      have hB13' : Row w23 b13 [(.int .i64 3), (.int .i64 0), (.slice none 0 0), (.slice (some ⟨g99, 0, none⟩) 2 d99)] := hB13
      clear hB11 hB12 hB13
      have s3 := hW.size
      refine region_spec2 51 164 (fun _ => false) [Is (.pointer (some ⟨b11, 0, none⟩)), Is (.int .i64 1), Is (.bool false), Is (.bool false), Is (.pointer (some ⟨b11, 1, none⟩)), Is (.int .i64 n'), Is (.pointer (some ⟨(w.heap.size + 1), 1, none⟩)), Is (.int .i64 n'), Is (.bool false), Is (.bool false), Is (.bool false), Is (.pointer (some ⟨b12, 0, none⟩)), Is (.int .i64 2), Is (.bool false), Is (.bool false), Is (.bool false), Is (.pointer (some ⟨b12, 2, none⟩)), Is (.slice B95 b'.length d95), Is (.pointer (some ⟨(w.heap.size + 1), 2, none⟩)), Is (.slice A' b'.length c'), Is (.bool true), Is (.bool false), Is (.bool false), Is (.bool false), Is (.pointer (some ⟨b13, 0, none⟩)), Is (.int .i64 3), Is (.bool false), Is (.bool false), Is (.bool false), Is (.pointer (some ⟨b13, 3, none⟩)), Is (.slice (some ⟨g99, 0, none⟩) 2 d99), Is (.int .i64 2), Is (.bool false), Is (.bool false), Is (.bool false), Is (.pointer (some ⟨b13, 3, none⟩)), Is (.slice (some ⟨g99, 0, none⟩) 2 d99), Is (.pointer (some ⟨g99, 0, none⟩)), Is (.agg #[(.int .i64 k), (.int .i64 n), (.slice A b.length c), (.slice B l.length d)]), Is (.agg #[(.int .i64 k), (.int .i64 n), (.slice A b.length c), (.slice B l.length d)]), Is (.bool true), Is (.bool false), Is (.bool false), Is (.bool false), Is (.pointer (some ⟨b13, 3, none⟩)), Is (.slice (some ⟨g99, 0, none⟩) 2 d99), Is (.pointer (some ⟨g99, 4, none⟩)), Is (.agg #[(.int .i64 k'), (.int .i64 n'), (.slice A' b'.length c'), (.slice B' l'.length d')]), Is (.agg #[(.int .i64 k'), (.int .i64 n'), (.slice A' b'.length c'), (.slice B' l'.length d')]), Is (.bool true), Is (.bool false)] [100, 101, 102, 103, 104, 105, 106, 107, 108, 109, 110, 111, 112, 113, 114, 115, 116, 117, 118, 119, 120, 121, 122, 123, 124, 125, 126, 127, 128, 129, 130, 131, 132, 133, 134, 135, 136, 137, 138, 139, 140, 141, 142, 143, 144, 145, 146, 147, 148, 149, 150] (by kernel_rfl) (by kernel_rfl) (by kernel_rfl) (Nat.le_of_eq rfl) (grows_cons (Is.grows _) (grows_cons (Is.grows _) (grows_cons (Is.grows _) (grows_cons (Is.grows _) (grows_cons (Is.grows _) (grows_cons (Is.grows _) (grows_cons (Is.grows _) (grows_cons (Is.grows _) (grows_cons (Is.grows _) (grows_cons (Is.grows _) (grows_cons (Is.grows _) (grows_cons (Is.grows _) (grows_cons (Is.grows _) (grows_cons (Is.grows _) (grows_cons (Is.grows _) (grows_cons (Is.grows _) (grows_cons (Is.grows _) (grows_cons (Is.grows _) (grows_cons (Is.grows _) (grows_cons (Is.grows _) (grows_cons (Is.grows _) (grows_cons (Is.grows _) (grows_cons (Is.grows _) (grows_cons (Is.grows _) (grows_cons (Is.grows _) (grows_cons (Is.grows _) (grows_cons (Is.grows _) (grows_cons (Is.grows _) (grows_cons (Is.grows _) (grows_cons (Is.grows _) (grows_cons (Is.grows _) (grows_cons (Is.grows _) (grows_cons (Is.grows _) (grows_cons (Is.grows _) (grows_cons (Is.grows _) (grows_cons (Is.grows _) (grows_cons (Is.grows _) (grows_cons (Is.grows _) (grows_cons (Is.grows _) (grows_cons (Is.grows _) (grows_cons (Is.grows _) (grows_cons (Is.grows _) (grows_cons (Is.grows _) (grows_cons (Is.grows _) (grows_cons (Is.grows _) (grows_cons (Is.grows _) (grows_cons (Is.grows _) (grows_cons (Is.grows _) (grows_cons (Is.grows _) (grows_cons (Is.grows _) (grows_cons (Is.grows _) grows_nil)))))))))))))))))))))))))))))))))))))))))))))))))))
        ⟨step_fa rfl (.inl rfl) 0 (by decide) rfl rfl (knows_out 11 (by kernel_rfl) rfl),
         step_int rfl (.inl rfl) hB11' (j := 0) rfl rfl rfl (knows_in 0 100 (by decide) (by kernel_rfl) rfl rfl),
         step_neI rfl (.inl rfl) (p := 1) (q := 1) rfl rfl (bne_self_eq_false _).symm (knows_in 1 101 (by decide) (by kernel_rfl) rfl rfl) (knows_const _),
         step_mv rfl (.inl rfl) rfl rfl (knows_in 2 102 (by decide) (by kernel_rfl) rfl rfl),
         step_fa rfl (.inr ⟨3, false, 103, rfl, by decide, by kernel_rfl, rfl, fun _ _ h => h⟩) 1 (by decide) rfl rfl (knows_out 11 (by kernel_rfl) rfl),
         step_int rfl (.inr ⟨3, false, 103, rfl, by decide, by kernel_rfl, rfl, fun _ _ h => h⟩) hB11' (j := 1) rfl rfl rfl (knows_in 4 104 (by decide) (by kernel_rfl) rfl rfl),
         step_fa rfl (.inr ⟨3, false, 103, rfl, by decide, by kernel_rfl, rfl, fun _ _ h => h⟩) 1 (by decide) rfl rfl (knows_out 4 (by kernel_rfl) rfl),
         step_int rfl (.inr ⟨3, false, 103, rfl, by decide, by kernel_rfl, rfl, fun _ _ h => h⟩) hRb (j := 1) rfl rfl rfl (knows_in 6 106 (by decide) (by kernel_rfl) rfl rfl),
         step_neI rfl (.inr ⟨3, false, 103, rfl, by decide, by kernel_rfl, rfl, fun _ _ h => h⟩) (p := n') (q := n') rfl rfl (bne_self_eq_false _).symm (knows_in 5 105 (by decide) (by kernel_rfl) rfl rfl) (knows_in 7 107 (by decide) (by kernel_rfl) rfl rfl),
         step_pick rfl (.inl rfl) (b := false) rfl rfl (knows_in 3 103 (by decide) (by kernel_rfl) rfl rfl) (knows_in 8 108 (by decide) (by kernel_rfl) rfl rfl),
         step_mv rfl (.inl rfl) rfl rfl (knows_in 9 109 (by decide) (by kernel_rfl) rfl rfl),
         step_fa rfl (.inr ⟨10, false, 110, rfl, by decide, by kernel_rfl, rfl, fun _ _ h => h⟩) 0 (by decide) rfl rfl (knows_out 12 (by kernel_rfl) rfl),
         step_int rfl (.inr ⟨10, false, 110, rfl, by decide, by kernel_rfl, rfl, fun _ _ h => h⟩) hB12' (j := 0) rfl rfl rfl (knows_in 11 111 (by decide) (by kernel_rfl) rfl rfl),
         step_neI rfl (.inr ⟨10, false, 110, rfl, by decide, by kernel_rfl, rfl, fun _ _ h => h⟩) (p := 2) (q := 2) rfl rfl (bne_self_eq_false _).symm (knows_in 12 112 (by decide) (by kernel_rfl) rfl rfl) (knows_const _),
         step_pick rfl (.inl rfl) (b := false) rfl rfl (knows_in 10 110 (by decide) (by kernel_rfl) rfl rfl) (knows_in 13 113 (by decide) (by kernel_rfl) rfl rfl),
         step_mv rfl (.inl rfl) rfl rfl (knows_in 14 114 (by decide) (by kernel_rfl) rfl rfl),
         step_fa rfl (.inr ⟨15, false, 115, rfl, by decide, by kernel_rfl, rfl, fun _ _ h => h⟩) 2 (by decide) rfl rfl (knows_out 12 (by kernel_rfl) rfl),
         step_bytes rfl (.inr ⟨15, false, 115, rfl, by decide, by kernel_rfl, rfl, fun _ _ h => h⟩) hB12' (j := 2) rfl rfl rfl (knows_in 16 116 (by decide) (by kernel_rfl) rfl rfl),
         step_fa rfl (.inr ⟨15, false, 115, rfl, by decide, by kernel_rfl, rfl, fun _ _ h => h⟩) 2 (by decide) rfl rfl (knows_out 4 (by kernel_rfl) rfl),
         step_bytes rfl (.inr ⟨15, false, 115, rfl, by decide, by kernel_rfl, rfl, fun _ _ h => h⟩) hRb (j := 2) rfl rfl rfl (knows_in 18 118 (by decide) (by kernel_rfl) rfl rfl),
         step_call2 (R := BB b') (R' := BB b') (T := Is (.bool true)) (.inr ⟨15, false, 115, rfl, by decide, by kernel_rfl, rfl, fun _ _ h => h⟩) rfl cd14 rfl rfl ((knows_in 17 117 (by decide) (by kernel_rfl) rfl rfl).s fun w hw => BB.mk (hN95.below hw)) ((knows_in 19 119 (by decide) (by kernel_rfl) rfl rfl).s fun w hw => BB.mk (hNb.below hw)) (fun w u v _ h h' => by
            have hh := k_wsame hlbm h h'
            rw [decide_eq_true rfl] at hh
            exact hh),
         step_not rfl (.inr ⟨15, false, 115, rfl, by decide, by kernel_rfl, rfl, fun _ _ h => h⟩) (b := true) rfl rfl (knows_in 20 120 (by decide) (by kernel_rfl) rfl rfl),
         step_pick rfl (.inl rfl) (b := false) rfl rfl (knows_in 15 115 (by decide) (by kernel_rfl) rfl rfl) (knows_in 21 121 (by decide) (by kernel_rfl) rfl rfl),
         step_mv rfl (.inl rfl) rfl rfl (knows_in 22 122 (by decide) (by kernel_rfl) rfl rfl),
         step_fa rfl (.inr ⟨23, false, 123, rfl, by decide, by kernel_rfl, rfl, fun _ _ h => h⟩) 0 (by decide) rfl rfl (knows_out 13 (by kernel_rfl) rfl),
         step_int rfl (.inr ⟨23, false, 123, rfl, by decide, by kernel_rfl, rfl, fun _ _ h => h⟩) hB13' (j := 0) rfl rfl rfl (knows_in 24 124 (by decide) (by kernel_rfl) rfl rfl),
         step_neI rfl (.inr ⟨23, false, 123, rfl, by decide, by kernel_rfl, rfl, fun _ _ h => h⟩) (p := 3) (q := 3) rfl rfl (bne_self_eq_false _).symm (knows_in 25 125 (by decide) (by kernel_rfl) rfl rfl) (knows_const _),
         step_pick rfl (.inl rfl) (b := false) rfl rfl (knows_in 23 123 (by decide) (by kernel_rfl) rfl rfl) (knows_in 26 126 (by decide) (by kernel_rfl) rfl rfl),
         step_mv rfl (.inl rfl) rfl rfl (knows_in 27 127 (by decide) (by kernel_rfl) rfl rfl),
         step_fa rfl (.inr ⟨28, false, 128, rfl, by decide, by kernel_rfl, rfl, fun _ _ h => h⟩) 3 (by decide) rfl rfl (knows_out 13 (by kernel_rfl) rfl),
         step_list rfl (.inr ⟨28, false, 128, rfl, by decide, by kernel_rfl, rfl, fun _ _ h => h⟩) hB13' (j := 3) rfl rfl rfl (knows_in 29 129 (by decide) (by kernel_rfl) rfl rfl),
         step_len23 rfl (.inr ⟨28, false, 128, rfl, by decide, by kernel_rfl, rfl, fun _ _ h => h⟩) rfl rfl (knows_in 30 130 (by decide) (by kernel_rfl) rfl rfl),
         step_neI rfl (.inr ⟨28, false, 128, rfl, by decide, by kernel_rfl, rfl, fun _ _ h => h⟩) (p := 2) (q := 2) rfl rfl (bne_self_eq_false _).symm (knows_in 31 131 (by decide) (by kernel_rfl) rfl rfl) (knows_const _),
         step_pick rfl (.inl rfl) (b := false) rfl rfl (knows_in 28 128 (by decide) (by kernel_rfl) rfl rfl) (knows_in 32 132 (by decide) (by kernel_rfl) rfl rfl),
         step_mv rfl (.inl rfl) rfl rfl (knows_in 33 133 (by decide) (by kernel_rfl) rfl rfl),
         step_fa rfl (.inr ⟨34, false, 134, rfl, by decide, by kernel_rfl, rfl, fun _ _ h => h⟩) 3 (by decide) rfl rfl (knows_out 13 (by kernel_rfl) rfl),
         step_list rfl (.inr ⟨34, false, 134, rfl, by decide, by kernel_rfl, rfl, fun _ _ h => h⟩) hB13' (j := 3) rfl rfl rfl (knows_in 35 135 (by decide) (by kernel_rfl) rfl rfl),
         step_ix0 rfl (.inr ⟨34, false, 134, rfl, by decide, by kernel_rfl, rfl, fun _ _ h => h⟩) rfl rfl (knows_in 36 136 (by decide) (by kernel_rfl) rfl rfl),
         step_loadAt rfl (.inr ⟨34, false, 134, rfl, by decide, by kernel_rfl, rfl, fun _ _ h => h⟩) hq0 hl99 rfl rfl rfl (knows_in 37 137 (by decide) (by kernel_rfl) rfl rfl),
         step_load25 rfl (.inr ⟨34, false, 134, rfl, by decide, by kernel_rfl, rfl, fun _ _ h => h⟩) hRa rfl rfl rfl (knows_out 3 (by kernel_rfl) rfl),
         step_call2 (R := VV (.mk k n b l)) (R' := VV (.mk k n b l)) (T := Is (.bool true)) (.inr ⟨34, false, 134, rfl, by decide, by kernel_rfl, rfl, fun _ _ h => h⟩) rfl cd17 rfl rfl ((knows_in 38 138 (by decide) (by kernel_rfl) rfl rfl).s fun w hw => VV.mk (hHa.stay hw)) ((knows_in 39 139 (by decide) (by kernel_rfl) rfl rfl).s fun w hw => VV.mk (hHa.stay hw)) (fun w u v _ h h' => by
            have hh := k_refSame h h'
            rw [sameV_refl] at hh
            exact hh),
         step_not rfl (.inr ⟨34, false, 134, rfl, by decide, by kernel_rfl, rfl, fun _ _ h => h⟩) (b := true) rfl rfl (knows_in 40 140 (by decide) (by kernel_rfl) rfl rfl),
         step_pick rfl (.inl rfl) (b := false) rfl rfl (knows_in 34 134 (by decide) (by kernel_rfl) rfl rfl) (knows_in 41 141 (by decide) (by kernel_rfl) rfl rfl),
         step_mv rfl (.inl rfl) rfl rfl (knows_in 42 142 (by decide) (by kernel_rfl) rfl rfl),
         step_fa rfl (.inr ⟨43, false, 143, rfl, by decide, by kernel_rfl, rfl, fun _ _ h => h⟩) 3 (by decide) rfl rfl (knows_out 13 (by kernel_rfl) rfl),
         step_list rfl (.inr ⟨43, false, 143, rfl, by decide, by kernel_rfl, rfl, fun _ _ h => h⟩) hB13' (j := 3) rfl rfl rfl (knows_in 44 144 (by decide) (by kernel_rfl) rfl rfl),
         step_ix1 rfl (.inr ⟨43, false, 143, rfl, by decide, by kernel_rfl, rfl, fun _ _ h => h⟩) rfl rfl (knows_in 45 145 (by decide) (by kernel_rfl) rfl rfl),
         step_loadAt rfl (.inr ⟨43, false, 143, rfl, by decide, by kernel_rfl, rfl, fun _ _ h => h⟩) hq1 hl99 rfl rfl rfl (knows_in 46 146 (by decide) (by kernel_rfl) rfl rfl),
         step_load25 rfl (.inr ⟨43, false, 143, rfl, by decide, by kernel_rfl, rfl, fun _ _ h => h⟩) hRb rfl rfl rfl (knows_out 4 (by kernel_rfl) rfl),
         step_call2 (R := VV (.mk k' n' b' l')) (R' := VV (.mk k' n' b' l')) (T := Is (.bool true)) (.inr ⟨43, false, 143, rfl, by decide, by kernel_rfl, rfl, fun _ _ h => h⟩) rfl cd17 rfl rfl ((knows_in 47 147 (by decide) (by kernel_rfl) rfl rfl).s fun w hw => VV.mk (hHb.stay hw)) ((knows_in 48 148 (by decide) (by kernel_rfl) rfl rfl).s fun w hw => VV.mk (hHb.stay hw)) (fun w u v _ h h' => by
            have hh := k_refSame h h'
            rw [sameV_refl] at hh
            exact hh),
         step_not rfl (.inr ⟨43, false, 143, rfl, by decide, by kernel_rfl, rfl, fun _ _ h => h⟩) (b := true) rfl rfl (knows_in 49 149 (by decide) (by kernel_rfl) rfl rfl), trivial⟩ ?_
      intro val w24 hw hS hap hla
      have e100 : val 100 = (.pointer (some ⟨b11, 0, none⟩)) := hS 0 100 (by decide) rfl
      have e101 : val 101 = (.int .i64 1) := hS 1 101 (by decide) rfl
      have e102 : val 102 = (.bool false) := hS 2 102 (by decide) rfl
      have e103 : val 103 = (.bool false) := hS 3 103 (by decide) rfl
      have e104 : val 104 = (.pointer (some ⟨b11, 1, none⟩)) := hS 4 104 (by decide) rfl
      have e105 : val 105 = (.int .i64 n') := hS 5 105 (by decide) rfl
      have e106 : val 106 = (.pointer (some ⟨(w.heap.size + 1), 1, none⟩)) := hS 6 106 (by decide) rfl
      have e107 : val 107 = (.int .i64 n') := hS 7 107 (by decide) rfl
      have e108 : val 108 = (.bool false) := hS 8 108 (by decide) rfl
      have e109 : val 109 = (.bool false) := hS 9 109 (by decide) rfl
      have e110 : val 110 = (.bool false) := hS 10 110 (by decide) rfl
      have e111 : val 111 = (.pointer (some ⟨b12, 0, none⟩)) := hS 11 111 (by decide) rfl
      have e112 : val 112 = (.int .i64 2) := hS 12 112 (by decide) rfl
      have e113 : val 113 = (.bool false) := hS 13 113 (by decide) rfl
      have e114 : val 114 = (.bool false) := hS 14 114 (by decide) rfl
      have e115 : val 115 = (.bool false) := hS 15 115 (by decide) rfl
      have e116 : val 116 = (.pointer (some ⟨b12, 2, none⟩)) := hS 16 116 (by decide) rfl
      have e117 : val 117 = (.slice B95 b'.length d95) := hS 17 117 (by decide) rfl
      have e118 : val 118 = (.pointer (some ⟨(w.heap.size + 1), 2, none⟩)) := hS 18 118 (by decide) rfl
      have e119 : val 119 = (.slice A' b'.length c') := hS 19 119 (by decide) rfl
      have e120 : val 120 = (.bool true) := hS 20 120 (by decide) rfl
      have e121 : val 121 = (.bool false) := hS 21 121 (by decide) rfl
      have e122 : val 122 = (.bool false) := hS 22 122 (by decide) rfl
      have e123 : val 123 = (.bool false) := hS 23 123 (by decide) rfl
      have e124 : val 124 = (.pointer (some ⟨b13, 0, none⟩)) := hS 24 124 (by decide) rfl
      have e125 : val 125 = (.int .i64 3) := hS 25 125 (by decide) rfl
      have e126 : val 126 = (.bool false) := hS 26 126 (by decide) rfl
      have e127 : val 127 = (.bool false) := hS 27 127 (by decide) rfl
      have e128 : val 128 = (.bool false) := hS 28 128 (by decide) rfl
      have e129 : val 129 = (.pointer (some ⟨b13, 3, none⟩)) := hS 29 129 (by decide) rfl
      have e130 : val 130 = (.slice (some ⟨g99, 0, none⟩) 2 d99) := hS 30 130 (by decide) rfl
      have e131 : val 131 = (.int .i64 2) := hS 31 131 (by decide) rfl
      have e132 : val 132 = (.bool false) := hS 32 132 (by decide) rfl
      have e133 : val 133 = (.bool false) := hS 33 133 (by decide) rfl
      have e134 : val 134 = (.bool false) := hS 34 134 (by decide) rfl
      have e135 : val 135 = (.pointer (some ⟨b13, 3, none⟩)) := hS 35 135 (by decide) rfl
      have e136 : val 136 = (.slice (some ⟨g99, 0, none⟩) 2 d99) := hS 36 136 (by decide) rfl
      have e137 : val 137 = (.pointer (some ⟨g99, 0, none⟩)) := hS 37 137 (by decide) rfl
      have e138 : val 138 = (.agg #[(.int .i64 k), (.int .i64 n), (.slice A b.length c), (.slice B l.length d)]) := hS 38 138 (by decide) rfl
      have e139 : val 139 = (.agg #[(.int .i64 k), (.int .i64 n), (.slice A b.length c), (.slice B l.length d)]) := hS 39 139 (by decide) rfl
      have e140 : val 140 = (.bool true) := hS 40 140 (by decide) rfl
      have e141 : val 141 = (.bool false) := hS 41 141 (by decide) rfl
      have e142 : val 142 = (.bool false) := hS 42 142 (by decide) rfl
      have e143 : val 143 = (.bool false) := hS 43 143 (by decide) rfl
      have e144 : val 144 = (.pointer (some ⟨b13, 3, none⟩)) := hS 44 144 (by decide) rfl
      have e145 : val 145 = (.slice (some ⟨g99, 0, none⟩) 2 d99) := hS 45 145 (by decide) rfl
      have e146 : val 146 = (.pointer (some ⟨g99, 4, none⟩)) := hS 46 146 (by decide) rfl
      have e147 : val 147 = (.agg #[(.int .i64 k'), (.int .i64 n'), (.slice A' b'.length c'), (.slice B' l'.length d')]) := hS 47 147 (by decide) rfl
      have e148 : val 148 = (.agg #[(.int .i64 k'), (.int .i64 n'), (.slice A' b'.length c'), (.slice B' l'.length d')]) := hS 48 148 (by decide) rfl
      have e149 : val 149 = (.bool true) := hS 49 149 (by decide) rfl
      have e150 : val 150 = (.bool false) := hS 50 150 (by decide) rfl
      simp only [putVals, List.foldl_cons, List.foldl_nil, List.drop_succ_cons, List.drop_zero, Act.put, List.setIfInBounds_toArray, List.set_cons_succ, List.set_cons_zero, e100, e101, e102, e103, e104, e105, e106, e107, e108, e109, e110, e111, e112, e113, e114, e115, e116, e117, e118, e119, e120, e121, e122, e123, e124, e125, e126, e127, e128, e129, e130, e131, e132, e133, e134, e135, e136, e137, e138, e139, e140, e141, e142, e143, e144, e145, e146, e147, e148, e149, e150]
      clear hS hap hla e100 e101 e102 e103 e104 e105 e106 e107 e108 e109 e110 e111 e112 e113 e114 e115 e116 e117 e118 e119 e120 e121 e122 e123 e124 e125 e126 e127 e128 e129 e130 e131 e132 e133 e134 e135 e136 e137 e138 e139 e140 e141 e142 e143 e144 e145 e146 e147 e148 e149 e150
      replace hRa := hRa.next (by simp) hw
      replace hRb := hRb.next (by simp) hw
      replace hHa := hHa.stay hw
      replace hHb := hHb.stay hw
      replace hW := hW.trans (Below.mono hw hW.size)
      clear hw
      clear hB11' hB12' hB13' hq0 hq1 hN95 hNb hl99
      go_wp2_with (fail)
      have s4 := hW.size
      refine region_spec2 12 164 (fun _ => false) [Is (.agg #[(.int .i64 k), (.int .i64 n), (.slice A b.length c), (.slice B l.length d)]), Is (.agg #[(.int .i64 k'), (.int .i64 n'), (.slice A' b'.length c'), (.slice B' l'.length d')]), Is (.bool sv), Is (.agg #[(.int .i64 k), (.int .i64 n), (.slice A b.length c), (.slice B l.length d)]), Is (.agg #[(.int .i64 k'), (.int .i64 n'), (.slice A' b'.length c'), (.slice B' l'.length d')]), Is (.bool sv), Is (.bool true), Is (.bool true), Is (.agg #[(.int .i64 k), (.int .i64 n), (.slice A b.length c), (.slice B l.length d)]), Is (.agg #[(.int .i64 k), (.int .i64 n), (.slice A b.length c), (.slice B l.length d)]), Is (.bool true), Is (.bool true)] [152, 153, 154, 155, 156, 157, 158, 159, 160, 161, 162, 163] (by kernel_rfl) (by kernel_rfl) (by kernel_rfl) (Nat.le_of_eq rfl) (grows_cons (Is.grows _) (grows_cons (Is.grows _) (grows_cons (Is.grows _) (grows_cons (Is.grows _) (grows_cons (Is.grows _) (grows_cons (Is.grows _) (grows_cons (Is.grows _) (grows_cons (Is.grows _) (grows_cons (Is.grows _) (grows_cons (Is.grows _) (grows_cons (Is.grows _) (grows_cons (Is.grows _) grows_nil))))))))))))
        ⟨step_load25 rfl (.inl rfl) hRa rfl rfl rfl (knows_out 3 (by kernel_rfl) rfl),
         step_load25 rfl (.inl rfl) hRb rfl rfl rfl (knows_out 4 (by kernel_rfl) rfl),
         step_call2 (R := VV (.mk k n b l)) (R' := VV (.mk k' n' b' l')) (T := Is (.bool sv)) (.inl rfl) rfl cd16 rfl rfl ((knows_in 0 152 (by decide) (by kernel_rfl) rfl rfl).s fun w hw => VV.mk (hHa.stay hw)) ((knows_in 1 153 (by decide) (by kernel_rfl) rfl rfl).s fun w hw => VV.mk (hHb.stay hw)) (fun w u v _ h h' => by
            have hh := k_same h h'
            rw [hsv.out] at hh
            exact hh),
         step_load25 rfl (.inl rfl) hRa rfl rfl rfl (knows_out 3 (by kernel_rfl) rfl),
         step_load25 rfl (.inl rfl) hRb rfl rfl rfl (knows_out 4 (by kernel_rfl) rfl),
         step_call2 (R := VV (.mk k n b l)) (R' := VV (.mk k' n' b' l')) (T := Is (.bool sv)) (.inl rfl) rfl cd17 rfl rfl ((knows_in 3 155 (by decide) (by kernel_rfl) rfl rfl).s fun w hw => VV.mk (hHa.stay hw)) ((knows_in 4 156 (by decide) (by kernel_rfl) rfl rfl).s fun w hw => VV.mk (hHb.stay hw)) (fun w u v _ h h' => by
            have hh := k_refSame h h'
            rw [hsv.out] at hh
            exact hh),
         step_eqB rfl (.inl rfl) (p := sv) (q := sv) rfl rfl (by cases sv <;> rfl) (knows_in 2 154 (by decide) (by kernel_rfl) rfl rfl) (knows_in 5 157 (by decide) (by kernel_rfl) rfl rfl),
         step_mv rfl (.inl rfl) rfl rfl (knows_in 6 158 (by decide) (by kernel_rfl) rfl rfl),
         step_load25 rfl (.inr ⟨7, true, 159, rfl, by decide, by kernel_rfl, rfl, fun _ _ h => h⟩) hRa rfl rfl rfl (knows_out 3 (by kernel_rfl) rfl),
         step_load25 rfl (.inr ⟨7, true, 159, rfl, by decide, by kernel_rfl, rfl, fun _ _ h => h⟩) hRa rfl rfl rfl (knows_out 3 (by kernel_rfl) rfl),
         step_call2 (R := VV (.mk k n b l)) (R' := VV (.mk k n b l)) (T := Is (.bool true)) (.inr ⟨7, true, 159, rfl, by decide, by kernel_rfl, rfl, fun _ _ h => h⟩) rfl cd16 rfl rfl ((knows_in 8 160 (by decide) (by kernel_rfl) rfl rfl).s fun w hw => VV.mk (hHa.stay hw)) ((knows_in 9 161 (by decide) (by kernel_rfl) rfl rfl).s fun w hw => VV.mk (hHa.stay hw)) (fun w u v _ h h' => by
            have hh := k_same h h'
            rw [sameV_refl] at hh
            exact hh),
         step_pick rfl (.inl rfl) (b := true) rfl rfl (knows_in 7 159 (by decide) (by kernel_rfl) rfl rfl) (knows_in 10 162 (by decide) (by kernel_rfl) rfl rfl), trivial⟩ ?_
      intro val w25 hw hS hap hla
      have e152 : val 152 = (.agg #[(.int .i64 k), (.int .i64 n), (.slice A b.length c), (.slice B l.length d)]) := hS 0 152 (by decide) rfl
      have e153 : val 153 = (.agg #[(.int .i64 k'), (.int .i64 n'), (.slice A' b'.length c'), (.slice B' l'.length d')]) := hS 1 153 (by decide) rfl
      have e154 : val 154 = (.bool sv) := hS 2 154 (by decide) rfl
      have e155 : val 155 = (.agg #[(.int .i64 k), (.int .i64 n), (.slice A b.length c), (.slice B l.length d)]) := hS 3 155 (by decide) rfl
      have e156 : val 156 = (.agg #[(.int .i64 k'), (.int .i64 n'), (.slice A' b'.length c'), (.slice B' l'.length d')]) := hS 4 156 (by decide) rfl
      have e157 : val 157 = (.bool sv) := hS 5 157 (by decide) rfl
      have e158 : val 158 = (.bool true) := hS 6 158 (by decide) rfl
      have e159 : val 159 = (.bool true) := hS 7 159 (by decide) rfl
      have e160 : val 160 = (.agg #[(.int .i64 k), (.int .i64 n), (.slice A b.length c), (.slice B l.length d)]) := hS 8 160 (by decide) rfl
      have e161 : val 161 = (.agg #[(.int .i64 k), (.int .i64 n), (.slice A b.length c), (.slice B l.length d)]) := hS 9 161 (by decide) rfl
      have e162 : val 162 = (.bool true) := hS 10 162 (by decide) rfl
      have e163 : val 163 = (.bool true) := hS 11 163 (by decide) rfl
      simp only [putVals, List.foldl_cons, List.foldl_nil, List.drop_succ_cons, List.drop_zero, Act.put, List.setIfInBounds_toArray, List.set_cons_succ, List.set_cons_zero, e152, e153, e154, e155, e156, e157, e158, e159, e160, e161, e162, e163]
      clear hS hap hla e152 e153 e154 e155 e156 e157 e158 e159 e160 e161 e162 e163
      replace hRa := hRa.next (by simp) hw
      replace hRb := hRb.next (by simp) hw
      replace hHa := hHa.stay hw
      replace hHb := hHb.stay hw
      replace hW := hW.trans (Below.mono hw hW.size)
      clear hw
      go_wp2_with (fail)
      go_ret
      exact ⟨rfl, hW⟩
end Go.Proofs.YtcahcecohjohpaaDoor
