/- Any bytes have the tag of the document, wherever they are cut. -/
import Derived.Test.YtihipgojeikdkaaDoorG7
namespace Go.Proofs.YtihipgojeikdkaaDoor
open Go Go.RowKit

set_option maxRecDepth 50000 in
theorem tags_long (A B : Option Addr) (l c n d : Nat) (x : Int) (w : World) (hT : TabsH w) (h : 300 < l ∨ 300 < n) : Calls Tryd.prog 3 #[.slice A l c, .slice B n d, .int .u16 x] w fun e w' => e = .returned (.bool true) ∧ Below w.heap.size w w' := by
  have hd : (300 : Int) < l ∨ (l : Int) ≤ 300 ∧ (300 : Int) < n := by omega
  clear h
  rcases hd with h3 | ⟨h3, h4⟩
  · have e0 : decide ((300 : Int) < l) = true := decide_eq_true h3
    clear h3
    go_enter Tryd.func3, Tryd.ntmps3
    go_wp2_with (go_at_call 6; refine (awake_any _ hT).mono ?_; rintro e w2 ⟨rfl, hb2⟩)
    go_ret
    exact ⟨rfl, hb2⟩
  · have e0 : decide ((300 : Int) < l) = false := decide_eq_false (by omega)
    have e1 : decide ((300 : Int) < n) = true := decide_eq_true h4
    clear h3 h4
    go_enter Tryd.func3, Tryd.ntmps3
    go_wp2_with (go_at_call 6; refine (awake_any _ hT).mono ?_; rintro e w2 ⟨rfl, hb2⟩)
    go_ret
    exact ⟨rfl, hb2⟩
set_option maxRecDepth 50000 in
set_option maxHeartbeats 4000000 in
theorem tags_core (key b b1 b2 r : List Int) (A B B2 : Option Addr) (l c n d p q d2 : Nat) (x : Int) (w : World) (hT : TabsH w) (HK : Hid (key.length = l)) (hl : (l : Int) ≤ 300) (hl1 : l ≤ 1000) (hlc : l ≤ c) (hkb : HByt key) (hA : Nums w .u8 A key) (HB : Hid (b.length = n)) (hn : (n : Int) ≤ 300) (hnd : n ≤ d) (hbb : HByt b) (hB : Nums w .u8 B b)
    (hpd : p ≤ d) (hqd : q ≤ d2) (PB : Hid (PL n b)) (PB1 : Hid (PL p b1)) (PB2 : Hid (PL q b2)) (hB1 : Nums w .u8 B b1) (hB2 : Nums w .u8 B2 b2) (hru : Hid (∀ w : World, (Instr.slice 22 (.slice B n d) (some (.int .i64 (p : Int))) none none).run Tryd.prog w = .ok (.slice B2 q d2) w))
    (HTL : Hid (b.length ≤ 90000)) (HTL2 : Hid ((b1 ++ b2).length ≤ 90000)) (HR : Hid (tagV key b = r)) (HR2 : Hid (tagV key (b1 ++ b2) = r)) (HRL : Hid (r.length = 64))
    (hwa : IntKind.i64.wrap x = x) (hm : x.tmod ((n : Int) + 1) = (p : Int)) (hwp : IntKind.i64.wrap (p : Int) = (p : Int)) : Calls Tryd.prog 3 #[.slice A l c, .slice B n d, .int .u16 x] w fun e w' => e = .returned (.bool true) ∧ Below w.heap.size w w' := by
  obtain ⟨z64, s64⟩ := zero_of_info infH
  have e0 : decide ((300 : Int) < l) = false := decide_eq_false (by omega)
  have e1 : decide ((300 : Int) < n) = false := decide_eq_false (by omega)
  have hn0 : ¬ (n : Int) + 1 = 0 := by omega
  have hn1 : n ≤ 3000 := by omega
  clear hl
  go_enter Tryd.func3, Tryd.ntmps3
  go_wp2_with (first
    | (go_at_call 6; refine (awake_any _ hT).mono ?_; rintro e w1 ⟨rfl, hb1⟩
       replace hT := hT.next hb1
       replace hA := hA.below hb1
       replace hB := hB.below hb1
       replace hB1 := hB1.below hb1
       replace hB2 := hB2.below hb1
       have hW := hb1
       clear hb1)
    | (go_at_call 7; refine (rvtag_any key b r A B l c n d _ HK hl1 hkb hA HB hn1 hbb hB HR).mono ?_; rintro e w2 ⟨rfl, hb2⟩
       have R8 := (Rw.new w2 (ints .u8 (hzeros 64)) 25).roomA (us := ints .u8 r) ((il HRL.out).trans (il (hz_len 64)).symm)
       have h8 := (Rw.new w2 (ints .u8 (hzeros 64)) 25).storedA (us := ints .u8 r) ((il HRL.out).trans (il (hz_len 64)).symm)
       have hb3 := hb2.trans (Below.mono (Below.setCells (below_new w2 (.cells (ints .u8 (hzeros 64)).toArray 25)) (Nat.le_refl _) 0 (ints .u8 r).toArray.toList) hb2.size)
       replace hT := hT.next hb3
       replace hA := hA.below hb3
       replace hB := hB.below hb3
       replace hB1 := hB1.below hb3
       replace hB2 := hB2.below hb3
       replace hW := hW.trans (Below.mono hb3 hW.size)
       clear hb2 hb3)
    | (with_reducible refine wpList_store_mid (op := ⟨none, .store 25 (.tmp 8) (.tmp 27), _, _, _, _⟩) rfl 25 (.tmp 8) (.tmp 27) rfl w2.heap.size 0 (ints .u8 r).toArray rfl rfl R8 (szA infH (il HRL.out)) (ints_all _ _) ?_
       generalize (w2.alloc (.cells (ints .u8 (hzeros 64)).toArray 25)).setCells w2.heap.size 0 (ints .u8 r).toArray.toList = w4 at *
       generalize w2.heap.size = b8 at *
       clear R8))
  have s4 := hW.size
  refine region_spec2 19 47 (fun _ => false) [Is (.slice A l c), Is (.slice B n d), IsPs 1 b, Is (.agg (ints .u8 r).toArray), Is (.agg (ints .u8 r).toArray), Is (.bool true), Is (.bool true), Is (.slice A l c), Is (.slice B n d), Is (.int .i64 (p : Int)), Is (.slice B p d), Is (.slice B n d), Is (.int .i64 (p : Int)), Is (.slice B2 q d2), IsPs 2 (b1 ++ b2), Is (.agg (ints .u8 r).toArray), Is (.agg (ints .u8 r).toArray), Is (.bool true), Is (.bool true)] [28, 29, 30, 31, 32, 33, 34, 35, 36, 37, 38, 39, 40, 41, 42, 43, 44, 45, 46] (by kernel_rfl) (by kernel_rfl) (by kernel_rfl) (Nat.le_of_eq rfl) (grows_cons (Is.grows _) (grows_cons (Is.grows _) (grows_cons (IsPs.grows _ _) (grows_cons (Is.grows _) (grows_cons (Is.grows _) (grows_cons (Is.grows _) (grows_cons (Is.grows _) (grows_cons (Is.grows _) (grows_cons (Is.grows _) (grows_cons (Is.grows _) (grows_cons (Is.grows _) (grows_cons (Is.grows _) (grows_cons (Is.grows _) (grows_cons (Is.grows _) (grows_cons (IsPs.grows _ _) (grows_cons (Is.grows _) (grows_cons (Is.grows _) (grows_cons (Is.grows _) (grows_cons (Is.grows _) grows_nil)))))))))))))))))))
    ⟨step_mvP rfl (.inl rfl) rfl rfl (knows_out 0 (by kernel_rfl) rfl),
     step_mvP rfl (.inl rfl) rfl rfl (knows_out 1 (by kernel_rfl) rfl),
     step_lit1 rfl (.inl rfl) rfl PB.out rfl rfl ((knows_in 1 29 (by decide) (by kernel_rfl) rfl rfl).part hnd (fun w hw => hB.below hw)),
     step_tagV rfl (.inl rfl) rfl hT HK.out hl1 hlc hkb hA (by decide) HTL.out HR.out rfl (knows_in 0 28 (by decide) (by kernel_rfl) rfl rfl) (knowsW_in 2 30 (by decide) (by kernel_rfl) rfl rfl),
     step_ldV rfl (.inl rfl) (fun _ hw => (h8.next hw).range) rfl Tryd.underlying25 rfl (szV infH (il HRL.out)) rfl (knows_out 8 (by kernel_rfl) rfl),
     step_eqA rfl (.inl rfl) rfl eqV64 HRL.out HRL.out (decide_eq_true rfl) rfl (knows_in 3 31 (by decide) (by kernel_rfl) rfl rfl) (knows_in 4 32 (by decide) (by kernel_rfl) rfl rfl),
     step_mvP rfl (.inl rfl) rfl rfl (knows_in 5 33 (by decide) (by kernel_rfl) rfl rfl),
     step_mvP rfl (.inr ⟨6, true, 34, rfl, by decide, by kernel_rfl, rfl, fun _ _ h => h⟩) rfl rfl (knows_out 0 (by kernel_rfl) rfl),
     step_mvP rfl (.inr ⟨6, true, 34, rfl, by decide, by kernel_rfl, rfl, fun _ _ h => h⟩) rfl rfl (knows_out 1 (by kernel_rfl) rfl),
     step_mvP rfl (.inr ⟨6, true, 34, rfl, by decide, by kernel_rfl, rfl, fun _ _ h => h⟩) rfl rfl (knows_out 7 (by kernel_rfl) rfl),
     step_pre rfl (.inr ⟨6, true, 34, rfl, by decide, by kernel_rfl, rfl, fun _ _ h => h⟩) rfl hpd rfl (knows_in 8 36 (by decide) (by kernel_rfl) rfl rfl) (knows_in 9 37 (by decide) (by kernel_rfl) rfl rfl),
     step_mvP rfl (.inr ⟨6, true, 34, rfl, by decide, by kernel_rfl, rfl, fun _ _ h => h⟩) rfl rfl (knows_out 1 (by kernel_rfl) rfl),
     step_mvP rfl (.inr ⟨6, true, 34, rfl, by decide, by kernel_rfl, rfl, fun _ _ h => h⟩) rfl rfl (knows_out 7 (by kernel_rfl) rfl),
     step_suf rfl (.inr ⟨6, true, 34, rfl, by decide, by kernel_rfl, rfl, fun _ _ h => h⟩) rfl (fun w => hru.out w) rfl (knows_in 11 39 (by decide) (by kernel_rfl) rfl rfl) (knows_in 12 40 (by decide) (by kernel_rfl) rfl rfl),
     step_lit2 rfl (.inr ⟨6, true, 34, rfl, by decide, by kernel_rfl, rfl, fun _ _ h => h⟩) rfl PB1.out PB2.out rfl rfl ((knows_in 10 38 (by decide) (by kernel_rfl) rfl rfl).part hpd (fun w hw => hB1.below hw)) ((knows_in 13 41 (by decide) (by kernel_rfl) rfl rfl).part hqd (fun w hw => hB2.below hw)),
     step_tagV rfl (.inr ⟨6, true, 34, rfl, by decide, by kernel_rfl, rfl, fun _ _ h => h⟩) rfl hT HK.out hl1 hlc hkb hA (by decide) HTL2.out HR2.out rfl (knows_in 7 35 (by decide) (by kernel_rfl) rfl rfl) (knowsW_in 14 42 (by decide) (by kernel_rfl) rfl rfl),
     step_ldV rfl (.inr ⟨6, true, 34, rfl, by decide, by kernel_rfl, rfl, fun _ _ h => h⟩) (fun _ hw => (h8.next hw).range) rfl Tryd.underlying25 rfl (szV infH (il HRL.out)) rfl (knows_out 8 (by kernel_rfl) rfl),
     step_eqA rfl (.inr ⟨6, true, 34, rfl, by decide, by kernel_rfl, rfl, fun _ _ h => h⟩) rfl eqV64 HRL.out HRL.out (decide_eq_true rfl) rfl (knows_in 15 43 (by decide) (by kernel_rfl) rfl rfl) (knows_in 16 44 (by decide) (by kernel_rfl) rfl rfl),
     step_pick rfl (.inl rfl) (b := true) rfl rfl (knows_in 6 34 (by decide) (by kernel_rfl) rfl rfl) (knows_in 17 45 (by decide) (by kernel_rfl) rfl rfl), trivial⟩ ?_
  intro val w5 hw hS hap hla
  have e28 : val 28 = (.slice A l c) := hS 0 28 (by decide) rfl
  have e29 : val 29 = (.slice B n d) := hS 1 29 (by decide) rfl
  have e31 : val 31 = (.agg (ints .u8 r).toArray) := hS 3 31 (by decide) rfl
  have e32 : val 32 = (.agg (ints .u8 r).toArray) := hS 4 32 (by decide) rfl
  have e33 : val 33 = (.bool true) := hS 5 33 (by decide) rfl
  have e34 : val 34 = (.bool true) := hS 6 34 (by decide) rfl
  have e35 : val 35 = (.slice A l c) := hS 7 35 (by decide) rfl
  have e36 : val 36 = (.slice B n d) := hS 8 36 (by decide) rfl
  have e37 : val 37 = (.int .i64 (p : Int)) := hS 9 37 (by decide) rfl
  have e38 : val 38 = (.slice B p d) := hS 10 38 (by decide) rfl
  have e39 : val 39 = (.slice B n d) := hS 11 39 (by decide) rfl
  have e40 : val 40 = (.int .i64 (p : Int)) := hS 12 40 (by decide) rfl
  have e41 : val 41 = (.slice B2 q d2) := hS 13 41 (by decide) rfl
  have e43 : val 43 = (.agg (ints .u8 r).toArray) := hS 15 43 (by decide) rfl
  have e44 : val 44 = (.agg (ints .u8 r).toArray) := hS 16 44 (by decide) rfl
  have e45 : val 45 = (.bool true) := hS 17 45 (by decide) rfl
  have e46 : val 46 = (.bool true) := hS 18 46 (by decide) rfl
  simp only [putVals, List.foldl_cons, List.foldl_nil, List.drop_succ_cons, List.drop_zero, Act.put, List.setIfInBounds_toArray, List.set_cons_succ, List.set_cons_zero, e28, e29, e31, e32, e33, e34, e35, e36, e37, e38, e39, e40, e41, e43, e44, e45, e46]
  generalize val 30 = g30
  generalize val 42 = g42
  clear hS hap hla e28 e29 e31 e32 e33 e34 e35 e36 e37 e38 e39 e40 e41 e43 e44 e45 e46 
  replace hW := hW.trans (Below.mono hw hW.size)
  clear hw
  go_wp2
  go_ret
  exact ⟨rfl, hW⟩
theorem tags_any (A B : Option Addr) (c d : Nat) (key b : List Int) (x : Int) (w : World) (hT : TabsH w) (hlc : key.length ≤ c) (hkb : HByt key) (hA : Nums w .u8 A key) (hnd : b.length ≤ d) (hbb : HByt b) (hB : Nums w .u8 B b) (x0 : 0 ≤ x) (x1 : x < 65536) :
    Calls Tryd.prog 3 #[.slice A key.length c, .slice B b.length d, .int .u16 x] w fun e w' => e = .returned (.bool true) ∧ Below w.heap.size w w' := by
  by_cases h : 300 < key.length ∨ 300 < b.length
  · exact tags_long A B _ c _ d x w hT h
  obtain ⟨X, rfl⟩ := Int.eq_ofNat_of_zero_le x0
  obtain ⟨p, hp⟩ : ∃ p, X % (b.length + 1) = p := ⟨_, rfl⟩
  have hp2 : p ≤ b.length := by
    have := Nat.mod_lt X (show 0 < b.length + 1 by omega)
    omega
  have hm : (X : Int).tmod ((b.length : Int) + 1) = (p : Int) := by
    rw [Int.tmod_eq_emod_of_nonneg (by omega), ← hp]
    show _ = ((X % (b.length + 1) : Nat) : Int)
    rw [Int.natCast_emod]
    rfl
  obtain ⟨B2, hru, hB2⟩ := rest_any hB rfl hnd hp2
  have hB1 : Nums w .u8 B (b.take p) := by
    have e := List.take_append_drop p b
    rw [← e] at hB
    exact hB.first
  have h12 : b.take p ++ b.drop p = b := List.take_append_drop p b
  exact tags_core key b (b.take p) (b.drop p) (tagV key b) A B B2 key.length c b.length d p (b.length - p) (d - p) X w hT (hid rfl) (by omega) (by omega) hlc hkb hA (hid rfl) (by omega) hnd hbb hB (by omega) (by omega)
    (hid ⟨rfl, by omega, hbb⟩) (hid ⟨by rw [List.length_take]; omega, by omega, hbb.take p⟩) (hid ⟨by rw [List.length_drop], by omega, hbb.drop p⟩) hB1 hB2 (hid hru) (hid (by omega)) (hid (by rw [h12]; omega)) (hid rfl) (hid (by rw [h12])) (hid (tagV_len _ _)) (IntWalk.i64_in _ (by omega)) hm (IntWalk.i64_in _ (by omega))
end Go.Proofs.YtihipgojeikdkaaDoor
