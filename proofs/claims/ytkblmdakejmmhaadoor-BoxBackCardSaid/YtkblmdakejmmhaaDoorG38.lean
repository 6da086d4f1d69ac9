/- Texts of this proof, laid together: AOpen, BUn. -/
import Derived.Test.YtkblmdakejmmhaaDoorG36
import Derived.Test.YtkblmdakejmmhaaDoorG34
import Derived.Test.YtkblmdakejmmhaaDoorBUnwrapM
import Derived.Test.YtkblmdakejmmhaaDoorG37
/- Open: the tag is compared, and the text shown. -/
namespace Go.Proofs.YtkblmdakejmmhaaDoor
open Go Go.RowKit

set_option maxRecDepth 50000 in
theorem Nums.upto2 {w : World} {k : IntKind} {A : Option Addr} {x : List Int} (h : Nums w k A x) (n : Nat) : Nums w k A (x.take n) := fun hp => by
  rw [List.length_take] at hp
  obtain ⟨b, off, e, hlt, hc⟩ := h (by omega)
  refine ⟨b, off, e, hlt, fun i hi => ?_⟩
  rw [List.length_take] at hi
  rw [hc i (by omega)]
  congr 2
  rw [List.getD_eq_getElem?_getD, List.getD_eq_getElem?_getD, List.getElem?_take, if_pos (by omega)]
set_option maxRecDepth 50000 in
theorem aopen_few (key nonce : List Int) (AB AS : Option Addr) (lb cb ls cs : Nat) (w : World) (hls : ls < 16) (hlb : lb ≤ 1000) : Calls Tryd.prog 16 #[.agg (ints .u8 key).toArray, .agg (ints .u8 nonce).toArray, .slice AB lb cb, .slice AS ls cs] w fun e w' => e = .returned (.tuple #[.slice none 0 0, .int .i64 10]) ∧ Below w.heap.size w w' := by
  have hW := (below_new w (.cells (ints .u8 key).toArray 22)).alloc (by simp) (.cells (ints .u8 nonce).toArray 36)
  have g1 : (ls : Int) < 16 := by omega
  have g2 : (lb : Int) ≤ 1000 := by omega
  go_enter Tryd.func16, Tryd.ntmps16
  go_wp2_with (fail)
  go_ret2
  exact ⟨rfl, hW⟩
/-- What comes of it. -/
def OpenPost (good : Bool) (n : Nat) (x : List Int) (w : World) (e : Ending) (w' : World) : Prop := ∃ A d, e = .returned (.tuple #[.slice A (if good then n else 0) d, .int .i64 (if good then 0 else 20)]) ∧ Nums w' .u8 A (if good then x else []) ∧ Below w.heap.size w w'
set_option maxRecDepth 50000 in
set_option maxHeartbeats 4000000 in
theorem aopen_core (key nonce r z2 x : List Int) (good : Bool) (AB AS A2 : Option Addr) (lb cb ls cs c2 n : Nat) (w : World) (hT : Tabs w) (hk : Hid (key.length = 32)) (hn : Hid (nonce.length = 12)) (hls : ls = n + 16) (hlb : lb ≤ 1000) (hn4 : n ≤ 400) (hncs : n ≤ cs) (Pr : World → Prop) (Ps : World → Prop)
    (hPr : ∀ w w', Pr w → Below w.heap.size w w' → Pr w') (hPs : ∀ w w', Ps w → Below w.heap.size w w' → Ps w') (hB : Pr w) (hS0 : Ps w) (hR0 : Nums w .u8 A2 z2) (HRL : Hid (r.length = 16)) (HRB : Hid (Byt r)) (HZ2L : Hid (z2.length = 16)) (HZ2B : Hid (Byt z2)) (HGD : Hid (decide (r = z2) = good))
    (hru : Hid (∀ w : World, (Instr.slice 23 (.slice AS ls cs) (some (.int .i64 (n : Int))) none none).run Tryd.prog w = .ok (.slice A2 16 c2) w))
    (HTG : Hid (∀ w, Tabs w → Pr w → Ps w → Calls Tryd.prog 20 #[.agg (ints .u8 key).toArray, .agg (ints .u8 nonce).toArray, .slice AB lb cb, .slice AS n cs] w fun e w' => e = .returned (.agg (ints .u8 r).toArray) ∧ Below w.heap.size w w'))
    (HHD : Hid (∀ w, Tabs w → Ps w → Calls Tryd.prog 19 #[.agg (ints .u8 key).toArray, .agg (ints .u8 nonce).toArray, .int .u32 1, .slice AS n cs] w fun e w' => ∃ v, e = .returned v ∧ IsTup n x v w' ∧ Below w.heap.size w w')) :
    Calls Tryd.prog 16 #[.agg (ints .u8 key).toArray, .agg (ints .u8 nonce).toArray, .slice AB lb cb, .slice AS ls cs] w (OpenPost good n x w) := by
  have hK := ((Arr.made w .u8 key 22).alloc (.cells (ints .u8 nonce).toArray 36)).rw
  have hN := (Arr.made (w.alloc (.cells (ints .u8 key).toArray 22)) .u8 nonce 36).rw
  have hW := (below_new w (.cells (ints .u8 key).toArray 22)).alloc (by simp) (.cells (ints .u8 nonce).toArray 36)
  rw [World.size_alloc] at hN
  replace hT := hT.next hW
  replace hB := hPr _ _ hB hW
  replace hS0 := hPs _ _ hS0 hW
  replace hR0 := hR0.below hW
  have g1 : (ls : Int) ≤ 416 := by omega
  have g3 : ¬ (ls : Int) < 16 := by omega
  have g2 : (lb : Int) ≤ 1000 := by omega
  have e16 : (ls : Int) - 16 = (n : Int) := by omega
  clear hls hlb hn4
  go_enter Tryd.func16, Tryd.ntmps16
  go_upto_region 6 with (fail)
  generalize ((w.alloc (.cells (ints .u8 key).toArray 22)).alloc (.cells (ints .u8 nonce).toArray 36)) = w0 at *
  have s0 := hW.size
  refine region_spec2 8 47 (fun i => i == 7) [Is (.agg (ints .u8 key).toArray), Is (.agg (ints .u8 nonce).toArray), Is (.slice AB lb cb), Is (.slice AS ls cs), Is (.int .i64 (n : Int)), Is (.slice AS n cs), Is (.agg (ints .u8 r).toArray), IsZV w0.heap.size (ints .u8 (zeros 16))] [26, 27, 28, 29, 30, 31, 32, 11] (by kernel_rfl) (by kernel_rfl) (by kernel_rfl) (Nat.le_of_eq rfl) (grows_cons (Is.grows _) (grows_cons (Is.grows _) (grows_cons (Is.grows _) (grows_cons (Is.grows _) (grows_cons (Is.grows _) (grows_cons (Is.grows _) (grows_cons (Is.grows _) (grows_cons (IsZV.grows _ _) grows_nil))))))))
    ⟨step_ldV rfl (.inl rfl) (fun _ hw => (hK.next hw).range) rfl Tryd.underlying22 rfl (szV inf41 (il hk.out)) rfl (knows_out 4 (by kernel_rfl) rfl),
     step_ldV rfl (.inl rfl) (fun _ hw => (hN.next hw).range) rfl Tryd.underlying36 rfl (szV infNo (il hn.out)) rfl (knows_out 5 (by kernel_rfl) rfl),
     step_mvP rfl (.inl rfl) rfl rfl (knows_out 2 (by kernel_rfl) rfl),
     step_mvP rfl (.inl rfl) rfl rfl (knows_out 3 (by kernel_rfl) rfl),
     step_mvP rfl (.inl rfl) rfl rfl (knows_out 10 (by kernel_rfl) rfl),
     step_pre rfl (.inl rfl) rfl hncs rfl (knows_in 3 29 (by decide) (by kernel_rfl) rfl rfl) (knows_in 4 30 (by decide) (by kernel_rfl) rfl rfl),
     step_cw rfl (.inl rfl) rfl cxTag rfl (fun aa ww hw hf hd => ⟨_, (four_args (knows_in 0 26 (by decide) (by kernel_rfl) rfl rfl) (knows_in 1 27 (by decide) (by kernel_rfl) rfl rfl) (knows_in 2 28 (by decide) (by kernel_rfl) rfl rfl) (knows_in 5 31 (by decide) (by kernel_rfl) rfl rfl)) aa ww hw hf hd, HTG.out ww (hT.next hw) (hPr _ _ hB hw) (hPs _ _ hS0 hw)⟩),
     step_allocV (.inl rfl) inf33 rfl rfl, trivial⟩ ?_
  intro val w1 hw hS hap hla
  have e26 : val 26 = (.agg (ints .u8 key).toArray) := hS 0 26 (by decide) rfl
  have e27 : val 27 = (.agg (ints .u8 nonce).toArray) := hS 1 27 (by decide) rfl
  have e28 : val 28 = (.slice AB lb cb) := hS 2 28 (by decide) rfl
  have e29 : val 29 = (.slice AS ls cs) := hS 3 29 (by decide) rfl
  have e30 : val 30 = (.int .i64 (n : Int)) := hS 4 30 (by decide) rfl
  have e31 : val 31 = (.slice AS n cs) := hS 5 31 (by decide) rfl
  have e32 : val 32 = (.agg (ints .u8 r).toArray) := hS 6 32 (by decide) rfl
  obtain ⟨b11, e11, L11, Z11⟩ := hS 7 11 (by decide) rfl
  simp only [putVals, List.foldl_cons, List.foldl_nil, List.drop_succ_cons, List.drop_zero, Act.put, List.setIfInBounds_toArray, List.set_cons_succ, List.set_cons_zero, e26, e27, e28, e29, e30, e31, e32, e11]
  clear hS hap hla e26 e27 e28 e29 e30 e31 e32 e11 
  have LL11 := hid (show ((ints .u8 r)).length = 16 from (il HRL.out))
  have R11 := Z11.roomA (us := (ints .u8 r)) (LL11.out.trans (zv .u8 16).symm)
  have h11 := Z11.storedA (us := (ints .u8 r)) (LL11.out.trans (zv .u8 16).symm)
  replace hK := hK.next (Below.setCells hw L11 0 (ints .u8 r).toArray.toList)
  replace hN := hN.next (Below.setCells hw L11 0 (ints .u8 r).toArray.toList)
  replace hT := hT.next (Below.setCells hw L11 0 (ints .u8 r).toArray.toList)
  replace hB := hPr _ _ hB (Below.setCells hw L11 0 (ints .u8 r).toArray.toList)
  replace hS0 := hPs _ _ hS0 (Below.setCells hw L11 0 (ints .u8 r).toArray.toList)
  replace hR0 := hR0.below (Below.setCells hw L11 0 (ints .u8 r).toArray.toList)
  replace hW := hW.trans (Below.mono (Below.setCells hw L11 0 (ints .u8 r).toArray.toList) hW.size)
  with_reducible refine wpList_store_mid (op := ⟨none, .store 45 (.tmp 11) (.tmp 32), _, _, _, _⟩) rfl 45 (.tmp 11) (.tmp 32) rfl b11 0 (ints .u8 r).toArray rfl rfl R11 (szA inf33 LL11.out) (ints_all _ _) ?_
  generalize (w1.setCells b11 0 (ints .u8 r).toArray.toList) = w2 at *
  clear hw R11 LL11 Z11 L11
  go_upto_region 7 with (fail)
  have s2 := hW.size
  refine region_spec2 5 47 (fun _ => false) [Is (.slice (some ⟨b11, 0, none⟩) 16 16), Is (.slice AS ls cs), Is (.int .i64 (n : Int)), Is (.slice A2 16 c2), Is (.bool good)] [33, 34, 35, 36, 37] (by kernel_rfl) (by kernel_rfl) (by kernel_rfl) (Nat.le_of_eq rfl) (grows_cons (Is.grows _) (grows_cons (Is.grows _) (grows_cons (Is.grows _) (grows_cons (Is.grows _) (grows_cons (Is.grows _) grows_nil)))))
    ⟨step_one rfl (.inl rfl) (fun ev w h hc => ex_slA (P := Tryd.prog) ua33 ze33 (m := 16) rfl rfl ev w h hc) rfl (knows_out 11 (by kernel_rfl) rfl),
     step_mvP rfl (.inl rfl) rfl rfl (knows_out 3 (by kernel_rfl) rfl),
     step_mvP rfl (.inl rfl) rfl rfl (knows_out 10 (by kernel_rfl) rfl),
     step_suf rfl (.inl rfl) rfl (fun w => hru.out w) rfl (knows_in 1 34 (by decide) (by kernel_rfl) rfl rfl) (knows_in 2 35 (by decide) (by kernel_rfl) rfl rfl),
     step_cw rfl (.inl rfl) rfl cxEqu rfl (fun aa ww hw hf hd => ⟨_, (two_args (knows_in 0 33 (by decide) (by kernel_rfl) rfl rfl) (knows_in 3 36 (by decide) (by kernel_rfl) rfl rfl)) aa ww hw hf hd, aequal_dec _ A2 16 16 c2 r z2 good ww (by decide) HRL (hid HZ2L.out) HRB.out HZ2B.out ((h11.next hw)).nums (hR0.below hw) HGD.out⟩), trivial⟩ ?_
  intro val w3 hw hS hap hla
  have e33 : val 33 = (.slice (some ⟨b11, 0, none⟩) 16 16) := hS 0 33 (by decide) rfl
  have e34 : val 34 = (.slice AS ls cs) := hS 1 34 (by decide) rfl
  have e35 : val 35 = (.int .i64 (n : Int)) := hS 2 35 (by decide) rfl
  have e36 : val 36 = (.slice A2 16 c2) := hS 3 36 (by decide) rfl
  have e37 : val 37 = (.bool good) := hS 4 37 (by decide) rfl
  simp only [putVals, List.foldl_cons, List.foldl_nil, List.drop_succ_cons, List.drop_zero, Act.put, List.setIfInBounds_toArray, List.set_cons_succ, List.set_cons_zero, e33, e34, e35, e36, e37]
  clear hS hap hla e33 e34 e35 e36 e37 
  replace hK := hK.next hw
  replace hN := hN.next hw
  replace hT := hT.next hw
  replace hB := hPr _ _ hB hw
  replace hS0 := hPs _ _ hS0 hw
  replace hR0 := hR0.below hw
  replace h11 := h11.next hw
  replace hW := hW.trans (Below.mono hw hW.size)
  clear hw
  cases good
  · go_wp2_with (fail)
    go_ret2
    exact ⟨none, 0, rfl, Nums.nil, hW⟩
  · go_upto_region 9 with (fail)
    have s3 := hW.size
    refine region_spec2 9 47 (fun _ => false) [Is (.agg (ints .u8 key).toArray), Is (.agg (ints .u8 nonce).toArray), Is (.slice AS ls cs), Is (.int .i64 (n : Int)), Is (.slice AS n cs), IsTup n x, IsPart n x, Is (.int .i64 0), IsPart n x] [39, 40, 41, 42, 43, 44, 45, 46, 8] (by kernel_rfl) (by kernel_rfl) (by kernel_rfl) (Nat.le_of_eq rfl) (grows_cons (Is.grows _) (grows_cons (Is.grows _) (grows_cons (Is.grows _) (grows_cons (Is.grows _) (grows_cons (Is.grows _) (grows_cons (IsTup.grows _ _) (grows_cons (IsPart.grows _ _) (grows_cons (Is.grows _) (grows_cons (IsPart.grows _ _) grows_nil)))))))))
      ⟨step_ldV rfl (.inl rfl) (fun _ hw => (hK.next hw).range) rfl Tryd.underlying22 rfl (szV inf41 (il hk.out)) rfl (knows_out 4 (by kernel_rfl) rfl),
       step_ldV rfl (.inl rfl) (fun _ hw => (hN.next hw).range) rfl Tryd.underlying36 rfl (szV infNo (il hn.out)) rfl (knows_out 5 (by kernel_rfl) rfl),
       step_mvP rfl (.inl rfl) rfl rfl (knows_out 3 (by kernel_rfl) rfl),
       step_mvP rfl (.inl rfl) rfl rfl (knows_out 10 (by kernel_rfl) rfl),
       step_pre rfl (.inl rfl) rfl hncs rfl (knows_in 2 41 (by decide) (by kernel_rfl) rfl rfl) (knows_in 3 42 (by decide) (by kernel_rfl) rfl rfl),
       step_callR rfl (.inl rfl) rfl cxHid rfl (fun aa ww hw hf hd => ⟨_, (four_args (knows_in 0 39 (by decide) (by kernel_rfl) rfl rfl) (knows_in 1 40 (by decide) (by kernel_rfl) rfl rfl) (knows_const _) (knows_in 4 43 (by decide) (by kernel_rfl) rfl rfl)) aa ww hw hf hd, HHD.out ww (hT.next hw) (hPs _ _ hS0 hw)⟩),
       tup_fst rfl (.inl rfl) rfl rfl (knowsW_in 5 44 (by decide) (by kernel_rfl) rfl rfl),
       tup_snd rfl (.inl rfl) rfl rfl (knowsW_in 5 44 (by decide) (by kernel_rfl) rfl rfl),
       step_copyW rfl (.inl rfl) 6 45 (.inr rfl) rfl (by decide) (by kernel_rfl) rfl rfl, trivial⟩ ?_
    intro val w4 hw hS hap hla
    have e39 : val 39 = (.agg (ints .u8 key).toArray) := hS 0 39 (by decide) rfl
    have e40 : val 40 = (.agg (ints .u8 nonce).toArray) := hS 1 40 (by decide) rfl
    have e41 : val 41 = (.slice AS ls cs) := hS 2 41 (by decide) rfl
    have e42 : val 42 = (.int .i64 (n : Int)) := hS 3 42 (by decide) rfl
    have e43 : val 43 = (.slice AS n cs) := hS 4 43 (by decide) rfl
    have e46 : val 46 = (.int .i64 0) := hS 7 46 (by decide) rfl
    obtain ⟨B8, c8, e8, h8, N8⟩ := hS 8 8 (by decide) rfl
    simp only [putVals, List.foldl_cons, List.foldl_nil, List.drop_succ_cons, List.drop_zero, Act.put, List.setIfInBounds_toArray, List.set_cons_succ, List.set_cons_zero, e39, e40, e41, e42, e43, e46, e8]
    generalize val 44 = g44
    generalize val 45 = g45
    clear hS hap hla e39 e40 e41 e42 e43 e46 e8 
    replace hK := hK.next hw
    replace hN := hN.next hw
    replace hT := hT.next hw
    replace hB := hPr _ _ hB hw
    replace hS0 := hPs _ _ hS0 hw
    replace hR0 := hR0.below hw
    replace h11 := h11.next hw
    replace hW := hW.trans (Below.mono hw hW.size)
    clear hw
    go_wp2_with (fail)
    go_ret2
    exact ⟨B8, c8, rfl, N8, hW⟩
/-- The error, and the text. -/
def openE (key nonce be s : List Int) : Int := if s.length < 16 then 10 else if goodL key nonce be s then 0 else 20
def openL (key nonce be s : List Int) : List Int := if s.length < 16 then [] else if goodL key nonce be s then hidT key nonce (s.take (s.length - 16)) else []
set_option maxRecDepth 50000 in
theorem aopen_any (key nonce be s : List Int) (AB AS : Option Addr) (lb cb ls cs : Nat) (w : World) (hT : Tabs w) (hk : Hid (key.length = 32)) (hn : Hid (nonce.length = 12)) (hkb : HByt key) (hnb : HByt nonce) (HSB : HByt s) (PB : Hid (PLZ lb be)) (PS : Hid (s.length = ls)) (hls : ls ≤ 416) (hcb : lb ≤ cb) (hcs : ls ≤ cs) (hB : Nums w .u8 AB be) (hA : Nums w .u8 AS s) :
    Calls Tryd.prog 16 #[.agg (ints .u8 key).toArray, .agg (ints .u8 nonce).toArray, .slice AB lb cb, .slice AS ls cs] w fun e w' => ∃ A m d, e = .returned (.tuple #[.slice A m d, .int .i64 (openE key nonce be s)]) ∧ (openL key nonce be s).length = m ∧ Nums w' .u8 A (openL key nonce be s) ∧ Below w.heap.size w w' := by
  unfold openE openL
  rw [PS.out]
  by_cases h16 : ls < 16
  · rw [if_pos h16, if_pos h16]
    exact (aopen_few key nonce AB AS lb cb ls cs w h16 PB.out.2.1).mono fun e w' ⟨he, hb⟩ => ⟨none, 0, 0, he, rfl, Nums.nil, hb⟩
  · rw [if_neg h16, if_neg h16]
    obtain ⟨n, rfl⟩ : ∃ n, ls = n + 16 := ⟨ls - 16, by omega⟩
    rw [Nat.add_sub_cancel]
    obtain ⟨A2, hru, hR⟩ := rest_any (c := cs) (h := n) hA PS.out hcs (by omega)
    have e16 : n + 16 - n = 16 := by omega
    rw [e16] at hru
    have hl0 : (s.take n).length = n := by rw [List.length_take, PS.out]; omega
    have hx : (hidT key nonce (s.take n)).length = n := by rw [hidT_len hk.out hn.out (by rw [hl0]; omega), hl0]
    have hg : goodL key nonce be s = decide (atag key nonce be (s.take n) = s.drop n) := by unfold goodL; rw [PS.out, Nat.add_sub_cancel]
    refine (aopen_core key nonce (atag key nonce be (s.take n)) (s.drop n) (hidT key nonce (s.take n)) (goodL key nonce be s) AB AS A2 lb cb (n + 16) cs (cs - n) n w hT hk hn rfl PB.out.2.1 (by omega) (by omega) (fun w => Nums w .u8 AB be) (fun w => Nums w .u8 AS (s.take n)) (fun _ _ h hb => h.below hb) (fun _ _ h hb => h.below hb) hB (hA.upto2 n) hR
      (hid (atag_len _ _ _ _)) (hid (atag_byt _ _ _ _)) (hid (by rw [List.length_drop, PS.out]; omega)) (hid (HSB.drop n)) (hid hg.symm) (hid hru)
      (hid fun w hT hB hS => atag_any key nonce be (s.take n) AB AS lb cb n cs w hT hk hn hkb hnb PB (hid ⟨hl0, by omega, HSB.take n⟩) hcb (by omega) hB hS)
      (hid fun w hT hS => (hide_own key nonce (s.take n) 1 n cs AS w hT hk hn hkb hnb (HSB.take n) (hid hl0) (by omega) (by decide) (by omega) hS).mono fun e w' ⟨A, d, he, hO, hb, hd⟩ => ⟨_, he, ⟨A, d, rfl, hd, hO.nums⟩, hb⟩)).mono ?_
    rintro e w' ⟨A, d, he, hN, hb⟩
    cases hgd : goodL key nonce be s
    · rw [hgd] at he hN
      exact ⟨A, 0, d, he, rfl, hN, hb⟩
    · rw [hgd] at he hN
      exact ⟨A, n, d, he, hx, hN, hb⟩
end Go.Proofs.YtkblmdakejmmhaaDoor

/- Any bytes unwrapped. -/
namespace Go.Proofs.YtkblmdakejmmhaaDoor
open Go Go.RowKit

/-- The error, and the text. -/
def unkB (sk b : List Int) : List Int := boxK (shL sk (b.take 32)) (b.take 32) (pubL sk)
def unwrapE (sk b : List Int) : Int := if b.length < 48 then 10 else if noughtB sk (b.take 32) then 21 else openE (unkB sk b) (zeros 12) [] (b.drop 32)
def unwrapL (sk b : List Int) : List Int := if b.length < 48 then [] else if noughtB sk (b.take 32) then [] else openL (unkB sk b) (zeros 12) [] (b.drop 32)
set_option maxRecDepth 50000 in
theorem take32_len {b : List Int} {ls : Nat} (hl : b.length = ls) (h : 48 ≤ ls) : (b.take 32).length = 32 := by rw [List.length_take, hl]; omega
set_option maxRecDepth 50000 in
theorem unwrap_any (sk b : List Int) (A : Option Addr) (ls cs : Nat) (w : World) (hT : TabsH w) (hC : Tabs w) (h1 : sk.length = 32) (b1 : HByt sk) (hl : b.length = ls) (hls : ls ≤ 400) (hcs : ls ≤ cs) (bb : HByt b) (hA : Nums w .u8 A b) :
    Calls Tryd.prog 7 #[.agg (ints .u8 sk).toArray, .slice A ls cs] w fun e w' => ∃ v, e = .returned v ∧ IsTupE (unwrapL sk b).length (unwrapE sk b) (unwrapL sk b) v w' ∧ Below w.heap.size w w' := by
  unfold unwrapE unwrapL
  rw [hl]
  by_cases h48 : ls < 48
  · rw [if_pos h48, if_pos h48]
    exact (unwrap_few sk A ls cs w h48).mono fun e w' ⟨he, hb⟩ => ⟨_, he, ⟨none, 0, rfl, Nums.nil⟩, hb⟩
  · rw [if_neg h48, if_neg h48]
    obtain ⟨g, o, rfl, _, _⟩ := hA (by omega)
    have h2 := take32_len hl (by omega)
    have hF := hA.upto2 32
    have hX : Nums w .u8 (some ⟨g, o + 32, none⟩) (b.drop 32) := by
      have h := hA.cut (lo := 32) (m := b.length - 32) (by omega)
      rwa [List.take_of_length_le (by rw [List.length_drop]; omega)] at h
    have bf : HByt (b.take 32) := bb.take 32
    have bx : HByt (b.drop 32) := bb.drop 32
    have hd : (b.drop 32).length = ls - 32 := by rw [List.length_drop, hl]
    cases hn : noughtB sk (b.take 32) with
    | true => exact (unwrap_no sk (b.take 32) (b.drop 32) (pubL sk) (hzeros 32) g o ls cs w hT hC (hid h1) (hid h2) (hid (pub_len sk)) (hid (hz_len 32)) (hid (by omega)) hls (hid (by omega)) hF hX (hid (c_public h1 b1)) (hid fun w hT => agree_zero _ _ h1 b1 h2 bf h2 (pub_len sk) hn w hT)).mono fun e w' ⟨he, hb⟩ => ⟨_, he, ⟨none, 0, rfl, Nums.nil⟩, hb⟩
    | false =>
      have hk : (unkB sk b).length = 32 := boxK_len _ _ _
      have hkb : HByt (unkB sk b) := boxK_byt _ _ _
      have hag := fun w hT => agree_key h1 b1 h2 bf h2 bf (pub_len sk) (pub_byt sk) hn w hT
      have hag2 : ∀ w, TabsH w → Calls Tryd.prog 10 #[.agg (ints .u8 sk).toArray, .agg (ints .u8 (b.take 32)).toArray, .agg (ints .u8 (b.take 32)).toArray, .agg (ints .u8 (pubL sk)).toArray] w fun e w' => e = .returned (.tuple #[.agg (ints .u8 (unkB sk b)).toArray, .int .i64 0]) ∧ Below w.heap.size w w' := hag
      clear hag
      generalize unkB sk b = K at *
      exact unwrap_yes (openL K (zeros 12) [] (b.drop 32)) (openL K (zeros 12) [] (b.drop 32)).length (openE K (zeros 12) [] (b.drop 32)) sk (b.take 32) (b.drop 32) (pubL sk) K g o ls cs w hT hC (hid h1) (hid h2) (hid (pub_len sk)) (hid hk) (hid (by omega)) hls (hid (by omega)) hF hX (hid (c_public h1 b1)) (hid hag2) (hid fun w hC hX => (aopen_any K (zeros 12) [] (b.drop 32) none (some ⟨g, o + 32, none⟩) 0 0 (ls - 32) (cs - 32) w hC (hid hk) (hid (zeros_len 12)) hkb z12_byt bx (hid pl_nil) (hid hd) (by omega) (Nat.le_refl _) (by omega) Nums.nil hX).mono fun e w' ⟨A, m, d, he, hm, hN, hb⟩ => ⟨_, he, ⟨A, d, by rw [hm], hN⟩, hb⟩)
end Go.Proofs.YtkblmdakejmmhaaDoor
