/- Any text has the document's tag, wherever it is cut. -/
import Derived.Test.YthohfhloobmlpaaPAwake
import Derived.Test.YthohfhloobmlpaaStores
namespace Go.Proofs.Ythohfhloobmlpaa
open Go Go.RowKit

set_option maxRecDepth 8000 in
set_option maxHeartbeats 4000000 in
theorem tags_core (key b tg : List Int) (A A' : Option Addr) (L c i : Nat) (x : Int) (w : World) (HK : Hid (key.length = 32)) (HKB : Hid (Byt key)) (HTG : Hid (tg.length = 16)) (hL : L ≤ 400) (HIL : Hid (i ≤ L)) (HIC : Hid (i ≤ c)) (hx : 0 ≤ x ∧ x < 65536) (hi : Int.tmod x ((L : Int) + 1) = (i : Int)) (hi2 : x % ((L : Int) + 1) = (i : Int))
    (hA : Nums w .u8 A b) (hS : Nums w .u8 A' (b.drop i)) (KR : Hid (∀ w, Nums w .u8 A b → Calls Try.prog 19 #[.agg (ints .u8 key).toArray, .slice A L c] w fun e w' => e = .returned (.agg (ints .u8 tg).toArray) ∧ Below w.heap.size w w'))
    (HRU : Hid (∀ w : World, (Instr.slice 23 (.slice A L c) (some (.int .i64 (i : Int))) none none).run Try.prog w = .ok (.slice A' (L - i) (c - i)) w))
    (HT1 : Hid (tagL key (flat [(A, c, b)]) = tg)) (HT3 : Hid (tagL key (flat [(A, c, b.take i), (none, 0, []), (A', c - i, b.drop i)]) = tg))
    (HV1 : Hid ([Value.slice A L c] = [(A, c, b)].map fun p => Value.slice p.1 p.2.2.length p.2.1)) (HV3 : Hid ([Value.slice A i c, Value.slice none 0 0, Value.slice A' (L - i) (c - i)] = [(A, c, b.take i), (none, 0, []), (A', c - i, b.drop i)].map fun p => Value.slice p.1 p.2.2.length p.2.1))
    (POK1 : Hid (∀ w, Nums w .u8 A b → ∀ p ∈ [(A, c, b)], PartOk w p)) (POK3 : Hid (∀ w, Nums w .u8 A b → Nums w .u8 A' (b.drop i) → ∀ p ∈ [(A, c, b.take i), (none, 0, []), (A', c - i, b.drop i)], PartOk w p)) :
    Calls Try.prog 4 #[.agg (ints .u8 key).toArray, .slice A L c, .int .u16 x] w fun e w' => e = .returned (.bool true) ∧ Below w.heap.size w w' := by
  have hx64 : IntKind.i64.wrap x = x := IntWalk.i64_in _ (by omega)
  have hL1 : IntKind.i64.wrap ((L : Int) + 1) = (L : Int) + 1 := IntWalk.i64_in _ (by omega)
  have hL0 : ¬ (L : Int) + 1 = 0 := by omega
  have hL4 : ¬ (400 : Int) < L := by omega
  have hi64 : IntKind.i64.wrap (i : Int) = (i : Int) := IntWalk.i64_in _ (by have := HIL.out; omega)
  have HXX := hid hx
  clear hx hL
  have h1 := Rw.new w (ints .u8 key) 41
  have hW := below_new w (.cells (ints .u8 key).toArray 41)
  replace hA := hA.below hW
  replace hS := hS.below hW
  go_enter Try.func4, Try.ntmps4
  go_wp2_with (fail)
  generalize w.alloc (.cells (ints .u8 key).toArray 41) = w0 at *
  refine (c_awake _).mono ?_
  rintro e w1 ⟨rfl, hb1⟩
  replace h1 := h1.next hb1
  replace hA := hA.below hb1
  replace hS := hS.below hb1
  replace hW := hW.trans (Below.mono hb1 hW.size)
  clear hb1
  go_upto_region 6 with (fail)
  have s1 := hW.size
  refine region_seq2 4 42 (fun i => i == 3) [Is (.agg (ints .u8 key).toArray), Is (.slice A L c), Is (.agg (ints .u8 tg).toArray), IsZV w1.heap.size (ints .u8 (zeros 16))] [20, 21, 22, 8] (by kernel_rfl) (by kernel_rfl) (Nat.le_of_eq rfl) (grows_cons (Is.grows _) (grows_cons (Is.grows _) (grows_cons (Is.grows _) (grows_cons (IsZV.grows _ _) grows_nil))))
    ⟨step_ldV rfl (.inl rfl) (fun _ hw => (h1.next hw).range) rfl Try.underlying41 rfl (szV inf41 (il HK.out)) rfl (knows_out 3 (by kernel_rfl) rfl),
     step_mvP rfl (.inl rfl) rfl rfl (knows_out 1 (by kernel_rfl) rfl),
     step_cw rfl (.inl rfl) rfl cx19 rfl (fun aa ww hw hf hd => ⟨_, (two_args (knows_in 0 20 (by decide) (by kernel_rfl) rfl rfl) (knows_in 1 21 (by decide) (by kernel_rfl) rfl rfl)) aa ww hw hf hd, (KR.out ww (hA.below hw))⟩),
     step_allocV (.inl rfl) inf33 rfl rfl, trivial⟩ ?_
  intro val w2 hw hS hap hla
  have e20 : val 20 = (.agg (ints .u8 key).toArray) := hS 0 20 (by decide) rfl
  have e21 : val 21 = (.slice A L c) := hS 1 21 (by decide) rfl
  have e22 : val 22 = (.agg (ints .u8 tg).toArray) := hS 2 22 (by decide) rfl
  obtain ⟨b8, e8, L8, Z8⟩ := hS 3 8 (by decide) rfl
  simp only [putVals, List.foldl_cons, List.foldl_nil, List.drop_succ_cons, List.drop_zero, Act.put, List.setIfInBounds_toArray, List.set_cons_succ, List.set_cons_zero, e20, e21, e22, e8]
  clear hS hap hla e20 e21 e22 e8 
  have LL8 := hid (show ((ints .u8 tg)).length = 16 from (il HTG.out))
  have R8 := Z8.roomA (us := (ints .u8 tg)) (LL8.out.trans (zv .u8 16).symm)
  have h8 := Z8.storedA (us := (ints .u8 tg)) (LL8.out.trans (zv .u8 16).symm)
  replace h1 := h1.next (Below.setCells hw L8 0 (ints .u8 tg).toArray.toList)
  replace hA := hA.below (Below.setCells hw L8 0 (ints .u8 tg).toArray.toList)
  replace hS := hS.below (Below.setCells hw L8 0 (ints .u8 tg).toArray.toList)
  replace hW := hW.trans (Below.mono (Below.setCells hw L8 0 (ints .u8 tg).toArray.toList) hW.size)
  with_reducible refine wpList_store_mid (op := ⟨none, .store 33 (.tmp 8) (.tmp 22), _, _, _, _⟩) rfl 33 (.tmp 8) (.tmp 22) rfl b8 0 (ints .u8 tg).toArray rfl rfl R8 (szA inf33 LL8.out) (ints_all _ _) ?_
  generalize (w2.setCells b8 0 (ints .u8 tg).toArray.toList) = w3 at *
  clear hw R8 LL8 Z8 L8
  go_wp2_with (fail)
  have s3 := hW.size
  refine region_spec2 19 42 (fun i => i == 2 || i == 14) [Is (.agg (ints .u8 key).toArray), Is (.slice A L c), IsRowV w3.heap.size 1 [(.slice A L c)], Is (.agg (ints .u8 tg).toArray), Is (.agg (ints .u8 tg).toArray), Is (.bool true), Is (.bool true), Is (.agg (ints .u8 key).toArray), Is (.slice A L c), Is (.int .i64 (i : Int)), Is (.slice A i c), Is (.slice A L c), Is (.int .i64 (i : Int)), Is (.slice A' (L - i) (c - i)), IsRowV w3.heap.size 3 [(.slice A i c), (.slice none 0 0), (.slice A' (L - i) (c - i))], Is (.agg (ints .u8 tg).toArray), Is (.agg (ints .u8 tg).toArray), Is (.bool true), Is (.bool true)] [23, 24, 25, 26, 27, 28, 29, 30, 31, 32, 33, 34, 35, 36, 37, 38, 39, 40, 41] (by kernel_rfl) (by kernel_rfl) (by kernel_rfl) (Nat.le_of_eq rfl) (grows_cons (Is.grows _) (grows_cons (Is.grows _) (grows_cons (IsRowV.grows _ _ _) (grows_cons (Is.grows _) (grows_cons (Is.grows _) (grows_cons (Is.grows _) (grows_cons (Is.grows _) (grows_cons (Is.grows _) (grows_cons (Is.grows _) (grows_cons (Is.grows _) (grows_cons (Is.grows _) (grows_cons (Is.grows _) (grows_cons (Is.grows _) (grows_cons (Is.grows _) (grows_cons (IsRowV.grows _ _ _) (grows_cons (Is.grows _) (grows_cons (Is.grows _) (grows_cons (Is.grows _) (grows_cons (Is.grows _) grows_nil)))))))))))))))))))
    ⟨step_ldV rfl (.inl rfl) (fun _ hw => (h1.next hw).range) rfl Try.underlying41 rfl (szV inf41 (il HK.out)) rfl (knows_out 3 (by kernel_rfl) rfl),
     step_mvP rfl (.inl rfl) rfl rfl (knows_out 1 (by kernel_rfl) rfl),
     step_bsl (.inl rfl) rfl Try.underlying54 infSl (by decide) (by decide) (vs := [(.slice A L c)]) (by kernel_rfl) rfl (parts1 (knows_in 1 24 (by decide) (by kernel_rfl) rfl rfl)),
     step_tag (ps := [(A, c, b)]) rfl (.inl rfl) rfl HK.out HKB.out rfl (by show 1 ≤ 1000; decide) HT1.out rfl (knows_in 0 23 (by decide) (by kernel_rfl) rfl rfl) (knowsW_in 2 25 (by decide) (by kernel_rfl) rfl rfl) HV1.out (fun w hw => (POK1.out w (hA.below hw))),
     step_ldV rfl (.inl rfl) (fun _ hw => (h8.next hw).range) rfl Try.underlying33 rfl (szV inf33 (il HTG.out)) rfl (knows_out 8 (by kernel_rfl) rfl),
     step_eqA rfl (.inl rfl) rfl eqt33 HTG.out HTG.out (decide_eq_true rfl) rfl (knows_in 3 26 (by decide) (by kernel_rfl) rfl rfl) (knows_in 4 27 (by decide) (by kernel_rfl) rfl rfl),
     step_mvP rfl (.inl rfl) rfl rfl (knows_in 5 28 (by decide) (by kernel_rfl) rfl rfl),
     step_ldV rfl (.inr ⟨6, true, 29, rfl, by decide, by kernel_rfl, rfl, fun _ _ h => h⟩) (fun _ hw => (h1.next hw).range) rfl Try.underlying41 rfl (szV inf41 (il HK.out)) rfl (knows_out 3 (by kernel_rfl) rfl),
     step_mvP rfl (.inr ⟨6, true, 29, rfl, by decide, by kernel_rfl, rfl, fun _ _ h => h⟩) rfl rfl (knows_out 1 (by kernel_rfl) rfl),
     step_mvP rfl (.inr ⟨6, true, 29, rfl, by decide, by kernel_rfl, rfl, fun _ _ h => h⟩) rfl rfl (knows_out 7 (by kernel_rfl) rfl),
     step_pre rfl (.inr ⟨6, true, 29, rfl, by decide, by kernel_rfl, rfl, fun _ _ h => h⟩) rfl HIC.out rfl (knows_in 8 31 (by decide) (by kernel_rfl) rfl rfl) (knows_in 9 32 (by decide) (by kernel_rfl) rfl rfl),
     step_mvP rfl (.inr ⟨6, true, 29, rfl, by decide, by kernel_rfl, rfl, fun _ _ h => h⟩) rfl rfl (knows_out 1 (by kernel_rfl) rfl),
     step_mvP rfl (.inr ⟨6, true, 29, rfl, by decide, by kernel_rfl, rfl, fun _ _ h => h⟩) rfl rfl (knows_out 7 (by kernel_rfl) rfl),
     step_suf rfl (.inr ⟨6, true, 29, rfl, by decide, by kernel_rfl, rfl, fun _ _ h => h⟩) rfl HRU.out rfl (knows_in 11 34 (by decide) (by kernel_rfl) rfl rfl) (knows_in 12 35 (by decide) (by kernel_rfl) rfl rfl),
     step_bsl (.inr ⟨6, true, 29, rfl, by decide, by kernel_rfl, rfl, fun _ _ h => h⟩) rfl Try.underlying54 infSl (by decide) (by decide) (vs := [(.slice A i c), (.slice none 0 0), (.slice A' (L - i) (c - i))]) (by kernel_rfl) rfl (parts3 (knows_in 10 33 (by decide) (by kernel_rfl) rfl rfl) (knows_const _) (knows_in 13 36 (by decide) (by kernel_rfl) rfl rfl)),
     step_tag (ps := [(A, c, b.take i), (none, 0, []), (A', c - i, b.drop i)]) rfl (.inr ⟨6, true, 29, rfl, by decide, by kernel_rfl, rfl, fun _ _ h => h⟩) rfl HK.out HKB.out rfl (by show 3 ≤ 1000; decide) HT3.out rfl (knows_in 7 30 (by decide) (by kernel_rfl) rfl rfl) (knowsW_in 14 37 (by decide) (by kernel_rfl) rfl rfl) HV3.out (fun w hw => (POK3.out w (hA.below hw) (hS.below hw))),
     step_ldV rfl (.inr ⟨6, true, 29, rfl, by decide, by kernel_rfl, rfl, fun _ _ h => h⟩) (fun _ hw => (h8.next hw).range) rfl Try.underlying33 rfl (szV inf33 (il HTG.out)) rfl (knows_out 8 (by kernel_rfl) rfl),
     step_eqA rfl (.inr ⟨6, true, 29, rfl, by decide, by kernel_rfl, rfl, fun _ _ h => h⟩) rfl eqt33 HTG.out HTG.out (decide_eq_true rfl) rfl (knows_in 15 38 (by decide) (by kernel_rfl) rfl rfl) (knows_in 16 39 (by decide) (by kernel_rfl) rfl rfl),
     step_pick rfl (.inl rfl) (b := true) rfl rfl (knows_in 6 29 (by decide) (by kernel_rfl) rfl rfl) (knows_in 17 40 (by decide) (by kernel_rfl) rfl rfl), trivial⟩ ?_
  intro val w4 hw hS hap hla
  have e23 : val 23 = (.agg (ints .u8 key).toArray) := hS 0 23 (by decide) rfl
  have e24 : val 24 = (.slice A L c) := hS 1 24 (by decide) rfl
  obtain ⟨b25, e25, L25, Z25⟩ := hS 2 25 (by decide) rfl
  have e26 : val 26 = (.agg (ints .u8 tg).toArray) := hS 3 26 (by decide) rfl
  have e27 : val 27 = (.agg (ints .u8 tg).toArray) := hS 4 27 (by decide) rfl
  have e28 : val 28 = (.bool true) := hS 5 28 (by decide) rfl
  have e29 : val 29 = (.bool true) := hS 6 29 (by decide) rfl
  have e30 : val 30 = (.agg (ints .u8 key).toArray) := hS 7 30 (by decide) rfl
  have e31 : val 31 = (.slice A L c) := hS 8 31 (by decide) rfl
  have e32 : val 32 = (.int .i64 (i : Int)) := hS 9 32 (by decide) rfl
  have e33 : val 33 = (.slice A i c) := hS 10 33 (by decide) rfl
  have e34 : val 34 = (.slice A L c) := hS 11 34 (by decide) rfl
  have e35 : val 35 = (.int .i64 (i : Int)) := hS 12 35 (by decide) rfl
  have e36 : val 36 = (.slice A' (L - i) (c - i)) := hS 13 36 (by decide) rfl
  obtain ⟨b37, e37, L37, Z37⟩ := hS 14 37 (by decide) rfl
  have e38 : val 38 = (.agg (ints .u8 tg).toArray) := hS 15 38 (by decide) rfl
  have e39 : val 39 = (.agg (ints .u8 tg).toArray) := hS 16 39 (by decide) rfl
  have e40 : val 40 = (.bool true) := hS 17 40 (by decide) rfl
  have e41 : val 41 = (.bool true) := hS 18 41 (by decide) rfl
  simp only [putVals, List.foldl_cons, List.foldl_nil, List.drop_succ_cons, List.drop_zero, Act.put, List.setIfInBounds_toArray, List.set_cons_succ, List.set_cons_zero, e23, e24, e25, e26, e27, e28, e29, e30, e31, e32, e33, e34, e35, e36, e37, e38, e39, e40, e41]
  clear hS hap hla e23 e24 e25 e26 e27 e28 e29 e30 e31 e32 e33 e34 e35 e36 e37 e38 e39 e40 e41 L25 Z25 L37 Z37
  replace h1 := h1.next hw
  replace hA := hA.below hw
  replace hS := hS.below hw
  replace h8 := h8.next hw
  replace hW := hW.trans (Below.mono hw hW.size)
  clear hw
  go_wp2
  go_ret
  exact ⟨rfl, hW⟩
theorem tags_long (key : List Int) (A : Option Addr) (L c : Nat) (x : Int) (w : World) (hL : 400 < L) : Calls Try.prog 4 #[.agg (ints .u8 key).toArray, .slice A L c, .int .u16 x] w fun e w' => e = .returned (.bool true) ∧ Below w.heap.size w w' := by
  have hL4 : (400 : Int) < L := by omega
  have hW := below_new w (.cells (ints .u8 key).toArray 41)
  clear hL
  go_enter Try.func4, Try.ntmps4
  go_wp2_with (fail)
  generalize w.alloc (.cells (ints .u8 key).toArray 41) = w0 at *
  refine (c_awake _).mono ?_
  rintro e w1 ⟨rfl, hb1⟩
  replace hW := hW.trans (Below.mono hb1 hW.size)
  go_wp2
  go_ret
  exact ⟨rfl, hW⟩
theorem part_ok {w : World} {A : Option Addr} {c : Nat} {x : List Int} (hN : Nums w .u8 A x) (hc : x.length ≤ c) (hx : x.length ≤ 1000) (hb : Byt x) : PartOk w (A, c, x) := ⟨hN, hc, hx, hb⟩
theorem Nums.upto {w : World} {k : IntKind} {A : Option Addr} {x : List Int} (h : Nums w k A x) (n : Nat) : Nums w k A (x.take n) := fun hp => by
  rw [List.length_take] at hp
  obtain ⟨b, off, e, hlt, hc⟩ := h (by omega)
  refine ⟨b, off, e, hlt, fun i hi => ?_⟩
  rw [List.length_take] at hi
  rw [hc i (by omega)]
  congr 2
  rw [List.getD_eq_getElem?_getD, List.getD_eq_getElem?_getD, List.getElem?_take, if_pos (by omega)]
theorem tags_any (key b : List Int) (A : Option Addr) (c : Nat) (x : Int) (w : World) (hk : key.length = 32) (hkb : Byt key) (hbb : Byt b) (hbc : b.length ≤ c) (hx : 0 ≤ x ∧ x < 65536) (hA : Nums w .u8 A b) :
    Calls Try.prog 4 #[.agg (ints .u8 key).toArray, .slice A b.length c, .int .u16 x] w fun e w' => e = .returned (.bool true) ∧ Below w.heap.size w w' := by
  obtain ⟨L, hL⟩ : ∃ L, b.length = L := ⟨_, rfl⟩
  rw [hL] at hbc ⊢
  by_cases h4 : L ≤ 400
  · obtain ⟨i, hi⟩ := Int.eq_ofNat_of_zero_le (Int.emod_nonneg x (show (L : Int) + 1 ≠ 0 by omega))
    have hilt := Int.emod_lt_of_pos x (show (0 : Int) < (L : Int) + 1 by omega)
    rw [hi] at hilt
    have hiL : i ≤ L := by omega
    obtain ⟨A', hru, hN⟩ := rest_any (c := c) (h := i) hA hL hbc hiL
    have f1 : flat [(A, c, b)] = b := by simp [flat]
    have f3 : flat [(A, c, b.take i), (none, 0, []), (A', c - i, b.drop i)] = b := by simp [flat]
    refine tags_core key b (tagL key b) A A' L c i x w (hid hk) (hid hkb) (hid (lb_length _)) h4 (hid hiL) (hid (by omega)) hx (by rw [Int.tmod_eq_emod_of_nonneg hx.1]; exact hi) hi hA hN (hid fun w h => rtag_any key b A L c w hk hkb hL (by omega) hbb h) (hid hru) (hid (by rw [f1])) (hid (by rw [f3])) (hid (by simp [hL])) (hid (by simp [hL]; omega)) (hid fun w h p hp => ?_) (hid fun w h h' p hp => ?_)
    · simp only [List.mem_singleton] at hp
      subst hp
      exact part_ok h (by omega) (by omega) hbb
    · simp only [List.mem_cons, List.not_mem_nil, or_false] at hp
      rcases hp with rfl | rfl | rfl
      · exact part_ok (h.upto i) (by rw [List.length_take]; omega) (by rw [List.length_take]; omega) (hbb.take i)
      · exact part_ok Nums.nil (by simp) (by simp) (fun y hy => by simp at hy)
      · exact part_ok h' (by rw [List.length_drop]; omega) (by rw [List.length_drop]; omega) (hbb.drop i)
  · exact tags_long key A L c x w (by omega)
end Go.Proofs.Ythohfhloobmlpaa
