/- Texts of this proof, laid together: ARSeal, AROpen. -/
import Derived.Test.YtpiamcgienkhaaaDoorG15
import Derived.Test.YtpiamcgienkhaaaDoorG11
import Derived.Test.YtpiamcgienkhaaaDoorG14
import Derived.BigQuiet
import Derived.Deep.QuietTactic
/- The reference's sealed text. -/
namespace Go.Proofs.YtpiamcgienkhaaaDoor
open Go Go.RowKit

set_option maxRecDepth 50000 in
set_option maxHeartbeats 4000000 in
theorem rseal_core (key nonce be t h r : List Int) (AB AT : Option Addr) (lb cb lt ct : Nat) (w : World) (hk : Hid (key.length = 32)) (hn : Hid (nonce.length = 12)) (hkb : HByt key) (hnb : HByt nonce) (HTB : HByt t) (PB : Hid (PL lb be)) (PT : Hid (t.length = lt)) (HLT : Hid (lt ≤ 400)) (HLB : Hid (lb ≤ 400)) (HH : Hid (hideL t (strm key nonce 1 (4294967296 - 1)) = h)) (PH : Hid (PL lt h)) (HR : Hid (atag key nonce be h = r)) (HRL : Hid (r.length = 16)) (hB : Nums w .u8 AB be) (hA : Nums w .u8 AT t) :
    Calls Tryd.prog 9 #[.agg (ints .u8 key).toArray, .agg (ints .u8 nonce).toArray, .slice AB lb cb, .slice AT lt ct] w fun e w' => ∃ A m d, e = .returned (.slice A m d) ∧ (h ++ r).length = m ∧ Nums w' .u8 A (h ++ r) ∧ Below w.heap.size w w' := by
  obtain ⟨z33, s33⟩ := zero_of_info inf33
  have hK := ((Arr.made w .u8 key 22).alloc (.cells (ints .u8 nonce).toArray 23)).rw
  have hN := (Arr.made (w.alloc (.cells (ints .u8 key).toArray 22)) .u8 nonce 23).rw
  have hW := (below_new w (.cells (ints .u8 key).toArray 22)).alloc (by simp) (.cells (ints .u8 nonce).toArray 23)
  rw [World.size_alloc] at hN
  replace hB := hB.below hW
  replace hA := hA.below hW
  have i32 : (Tryd.prog.info? 22).map (·.size) = some (ints .u8 key).length := szV inf41 (il hk.out)
  have i12 : (Tryd.prog.info? 23).map (·.size) = some (ints .u8 nonce).length := szV infNo (il hn.out)
  have r4 := hK.range
  have r5 := hN.range
  go_enter Tryd.func9, Tryd.ntmps9
  go_wp2_with (first
    | (with_reducible refine wpList_load_mid (op := ⟨some 12, .load 22 (.tmp 4), _, _, _, _⟩) rfl 22 (.tmp 4) rfl w.heap.size 0 rfl (ints .u8 key) _ r4 Tryd.underlying22 rfl i32 ?_)
    | (with_reducible refine wpList_load_mid (op := ⟨some 13, .load 23 (.tmp 5), _, _, _, _⟩) rfl 23 (.tmp 5) rfl (w.heap.size + 1) 0 rfl (ints .u8 nonce) _ r5 Tryd.underlying23 rfl i12 ?_)
    | (go_at_call 17; clear r4 r5; generalize (w.alloc (.cells (ints .u8 key).toArray 22)).alloc (.cells (ints .u8 nonce).toArray 23) = w8 at *
       refine (rhide_allown key nonce t 1 (4294967296 - 1) lt ct AT _ hk hn hkb hnb HTB PT (by have := HLT.out; omega) (by decide) (by have := HLT.out; omega) hA).mono ?_; rintro e w1 ⟨AH, dh, rfl, hO, hb1⟩
       rw [HH.out] at hO
       replace hO := hO.lower hW.size
       replace hK := hK.next hb1; replace hN := hN.next hb1; replace hB := hB.below hb1; replace hW := hW.trans (Below.mono hb1 hW.size)
       have q4 := hK.range
       have q5 := hN.range
       clear hb1 hA)
    | (with_reducible refine wpList_load_mid (op := ⟨some 16, .load 22 (.tmp 4), _, _, _, _⟩) rfl 22 (.tmp 4) rfl w.heap.size 0 rfl (ints .u8 key) _ q4 Tryd.underlying22 rfl i32 ?_)
    | (with_reducible refine wpList_load_mid (op := ⟨some 17, .load 23 (.tmp 5), _, _, _, _⟩) rfl 23 (.tmp 5) rfl (w.heap.size + 1) 0 rfl (ints .u8 nonce) _ q5 Tryd.underlying23 rfl i12 ?_)
    | (go_at_call 11; clear q4 q5; refine (rtag11_any key nonce be h AB AH lb cb lt dh _ hk hn hkb hnb PB PH HLB.out HLT.out hB hO.nums).mono ?_; rintro e w2 ⟨rfl, hb2⟩
       rw [HR.out]
       replace hO := hO.stay hb2
       have hOb := fun q (hq : (Value.slice AH lt dh).ownBlock = some q) => (hO.lt q hq).2
       have h12 := Rw.new w2 (ints .u8 (zeros 16)) 33
       have R12 := h12.roomA (us := ints .u8 r) ((il HRL.out).trans (il (zeros_len 16)).symm)
       have X12 := h12.storedA (us := ints .u8 r) ((il HRL.out).trans (il (zeros_len 16)).symm)
       have hb4 := Below.setCells (below_new w2 (.cells (ints .u8 (zeros 16)).toArray 33)) (Nat.le_refl _) 0 (ints .u8 r).toArray.toList
       replace hO := hO.stay hb4
       replace hW := hW.trans (Below.mono (hb2.trans (Below.mono hb4 hb2.size)) hW.size)
       have hne : ∀ q, (Value.slice AH lt dh).ownBlock = some q → q < w2.heap.size := hOb
       clear hb2 hb4 h12)
    | (with_reducible refine wpList_store_mid (op := ⟨none, .store 33 (.tmp 10) (.tmp 20), _, _, _, _⟩) rfl 33 (.tmp 10) (.tmp 20) rfl w2.heap.size 0 (ints .u8 r).toArray rfl rfl R12 (szA inf33 (il HRL.out)) (ints_all _ _) ?_
       generalize (w2.alloc (.cells (ints .u8 (zeros 16)).toArray 33)).setCells w2.heap.size 0 (ints .u8 r).toArray.toList = w3 at *
       generalize w2.heap.size = b10 at *
       clear R12))
  have hne0 : (Value.slice AH lt dh).ownBlock ≠ some b10 := fun e => absurd (hne b10 e) (Nat.lt_irrefl _)
  have hl10 := X12.lt (by rw [il HRL.out]; decide)
  have h10 := X12.arr
  have hO0 : Owns w3 w.heap.size 5 .u8 (.slice AH lt dh) (h ++ r.take 0) := by rw [List.take_zero, List.append_nil]; exact hO
  clear hO hne X12 hK hN hB
  go_loopw [9, 11] (fun v9 i wr => ∃ (k : Nat) (A : Option Addr) (m c : Nat), k ≤ 16 ∧ i = .int .i64 k ∧ v9 = .slice A m c ∧ Owns wr w.heap.size 5 .u8 (.slice A m c) (h ++ r.take k) ∧ (Value.slice A m c).ownBlock ≠ some b10 ∧ Arr wr b10 0 .u8 r ∧ Below w.heap.size w wr) (fun _ i _ => 16 - (intOf i).toNat)
  case atStart => exact ⟨0, _, _, _, by omega, rfl, rfl, hO0, hne0, h10, hW⟩
  case round =>
  clear hO0 hne0 h10 hW
  obtain ⟨k, A, m, c, hk16, rfl, rfl, hO, hne, h10, hW⟩ := hrel
  by_cases hlt : k < 16
  · have hk0 : (0 : Int) ≤ k := by omega
    have hk1 : (k : Int) < 16 := by omega
    obtain ⟨x, cx, _, H1⟩ := h10.spot (i := k) (by rw [HRL.out]; exact hlt)
    rw [Nat.zero_add] at cx
    have hsz := hW.size
    have hl := h10.lt (by rw [HRL.out]; decide)
    have HLL : Hid ((h ++ r.take k).length ≤ 600) := hid (by rw [List.length_append, PH.out.1, List.length_take]; have := HLT.out; omega)
    have htk : h ++ r.take (k + 1) = (h ++ r.take k) ++ [x] := by rw [take_succ_at H1.out, List.append_assoc]
    have HTK := hid htk
    clear htk hlt
    go_wp2_with (at_builtin; refine app_oneG rfl (.tmp 25) (.tmp 29) 24 rfl w.heap.size 5 .u8 1 Tryd.underlying24 Tryd.info5 (by omega) A m c (h ++ r.take k) rfl hO x 1 rfl (by have := HLL.out; omega) hsz ?_; intro A2 n2 c2 w5 hO2 hG)
    rw [← HTK.out] at hO2
    have h10b := h10.grew hG hne hl
    have hneb := hG.far hne hl
    have hW2 := hW.trans (hG.below hsz fun g e => (hO.lt g e).1)
    clear hO hne h10 hW hG
    go_roundw
    case rel => exact ⟨k + 1, A2, n2, c2, by omega, by go_num, rfl, hO2, hneb, h10b, hW2⟩
    case measure => simp [intOf]; omega
  have e : 16 = k := by omega
  subst e
  rw [List.take_of_length_le (by rw [HRL.out]; decide)] at hO
  have hm := hO.len
  clear hlt hk16
  go_wp2
  go_ret
  exact ⟨A, m, c, rfl, hm.symm, hO.nums, hW⟩
theorem rseal_any (key nonce be t : List Int) (AB AT : Option Addr) (lb cb lt ct : Nat) (w : World) (hk : Hid (key.length = 32)) (hn : Hid (nonce.length = 12)) (hkb : HByt key) (hnb : HByt nonce) (HTB : HByt t) (PB : Hid (PL lb be)) (PT : Hid (t.length = lt)) (HLT : Hid (lt ≤ 400)) (HLB : Hid (lb ≤ 400)) (hB : Nums w .u8 AB be) (hA : Nums w .u8 AT t) :
    Calls Tryd.prog 9 #[.agg (ints .u8 key).toArray, .agg (ints .u8 nonce).toArray, .slice AB lb cb, .slice AT lt ct] w fun e w' => ∃ A m d, e = .returned (.slice A m d) ∧ (sealL key nonce be t).length = m ∧ Nums w' .u8 A (sealL key nonce be t) ∧ Below w.heap.size w w' :=
  rseal_core key nonce be t (hidT key nonce t) (atag key nonce be (hidT key nonce t)) AB AT lb cb lt ct w hk hn hkb hnb HTB PB PT HLT HLB (hid rfl) (hid ⟨by rw [hidT_len hk.out hn.out (by rw [PT.out]; have := HLT.out; omega), PT.out], by have := HLT.out; omega, hidT_byt _ _ HTB⟩) (hid rfl) (hid (atag_len _ _ _ _)) hB hA
end Go.Proofs.YtpiamcgienkhaaaDoor

/- The reference's Open. -/
namespace Go.Proofs.YtpiamcgienkhaaaDoor
open Go Go.RowKit

theorem cxRTag (vs : Array Value) (w : World) : (callFunc 11 vs).run Tryd.prog w = .ok (.enter 11 vs) w := by go_simp
theorem cxRHid (vs : Array Value) (w : World) : (callFunc 17 vs).run Tryd.prog w = .ok (.enter 17 vs) w := by go_simp
theorem ropen_few (key nonce : List Int) (AB AS : Option Addr) (lb cb ls cs : Nat) (w : World) (hls : ls < 16) : Calls Tryd.prog 14 #[.agg (ints .u8 key).toArray, .agg (ints .u8 nonce).toArray, .slice AB lb cb, .slice AS ls cs] w fun e w' => e = .returned (.tuple #[.slice none 0 0, .int .i64 10]) ∧ Below w.heap.size w w' := by
  have hW := (below_new w (.cells (ints .u8 key).toArray 22)).alloc (by simp) (.cells (ints .u8 nonce).toArray 23)
  have g1 : (ls : Int) < 16 := by omega
  have g2 : (ls : Int) - 16 < 0 := by omega
  clear hls
  go_enter Tryd.func14, Tryd.ntmps14
  go_wp2_with (fail)
  go_ret2
  exact ⟨rfl, hW⟩
set_option maxRecDepth 50000 in
set_option maxHeartbeats 4000000 in
theorem ropen_core (key nonce be s r z2 x : List Int) (good : Bool) (AB AS : Option Addr) (lb cb ls cs n : Nat) (w : World) (hk : Hid (key.length = 32)) (hn : Hid (nonce.length = 12)) (hls : ls = n + 16) (hn4 : n ≤ 400) (hncs : n ≤ cs)
    (hB : Nums w .u8 AB be) (hS : Nums w .u8 AS s) (HSL : Hid (s.length = ls)) (HZ : Hid (∀ i, i < 16 → s[n + i]? = z2[i]?)) (HZL : Hid (z2.length = 16)) (HRL : Hid (r.length = 16)) (HGD : Hid (decide (r = z2) = good))
    (HTG : Hid (∀ w, Nums w .u8 AB be → Nums w .u8 AS s → Calls Tryd.prog 11 #[.agg (ints .u8 key).toArray, .agg (ints .u8 nonce).toArray, .slice AB lb cb, .slice AS n cs] w fun e w' => e = .returned (.agg (ints .u8 r).toArray) ∧ Below w.heap.size w w'))
    (HHD : Hid (∀ w, Nums w .u8 AS s → Calls Tryd.prog 17 #[.agg (ints .u8 key).toArray, .agg (ints .u8 nonce).toArray, .int .u32 1, .slice AS n cs] w fun e w' => ∃ v, e = .returned v ∧ IsRw .u8 n x v w' ∧ Below w.heap.size w w')) :
    Calls Tryd.prog 14 #[.agg (ints .u8 key).toArray, .agg (ints .u8 nonce).toArray, .slice AB lb cb, .slice AS ls cs] w (OpenPost good n x w) := by
  have hK := ((Arr.made w .u8 key 22).alloc (.cells (ints .u8 nonce).toArray 23)).rw
  have hN := (Arr.made (w.alloc (.cells (ints .u8 key).toArray 22)) .u8 nonce 23).rw
  have hW := (below_new w (.cells (ints .u8 key).toArray 22)).alloc (by simp) (.cells (ints .u8 nonce).toArray 23)
  rw [World.size_alloc] at hN
  replace hB := hB.below hW
  replace hS := hS.below hW
  have g1 : (ls : Int) ≤ 416 := by omega
  have g3 : ¬ (ls : Int) < 16 := by omega
  have e16 : (ls : Int) - 16 = (n : Int) := by omega
  have en : (ls : Int) = (n : Int) + 16 := by omega
  have g4 : (0 : Int) ≤ n := by omega
  have EN := hid en
  have HLS := hid hls
  clear hls hn4 en
  go_enter Tryd.func14, Tryd.ntmps14
  go_upto_region 4 with (fail)
  generalize ((w.alloc (.cells (ints .u8 key).toArray 22)).alloc (.cells (ints .u8 nonce).toArray 23)) = w0 at *
  have s0 := hW.size
  refine region_spec2 8 45 (fun i => i == 7) [Is (.agg (ints .u8 key).toArray), Is (.agg (ints .u8 nonce).toArray), Is (.slice AB lb cb), Is (.slice AS ls cs), Is (.int .i64 (n : Int)), Is (.slice AS n cs), Is (.agg (ints .u8 r).toArray), IsZV w0.heap.size (ints .u8 (zeros 16))] [18, 19, 20, 21, 22, 23, 24, 11] (by kernel_rfl) (by kernel_rfl) (by kernel_rfl) (Nat.le_of_eq rfl) (grows_cons (Is.grows _) (grows_cons (Is.grows _) (grows_cons (Is.grows _) (grows_cons (Is.grows _) (grows_cons (Is.grows _) (grows_cons (Is.grows _) (grows_cons (Is.grows _) (grows_cons (IsZV.grows _ _) grows_nil))))))))
    ⟨step_ldV rfl (.inl rfl) (fun _ hw => (hK.next hw).range) rfl Tryd.underlying22 rfl (szV inf41 (il hk.out)) rfl (knows_out 4 (by kernel_rfl) rfl),
     step_ldV rfl (.inl rfl) (fun _ hw => (hN.next hw).range) rfl Tryd.underlying23 rfl (szV infNo (il hn.out)) rfl (knows_out 5 (by kernel_rfl) rfl),
     step_mvP rfl (.inl rfl) rfl rfl (knows_out 2 (by kernel_rfl) rfl),
     step_mvP rfl (.inl rfl) rfl rfl (knows_out 3 (by kernel_rfl) rfl),
     step_mvP rfl (.inl rfl) rfl rfl (knows_out 10 (by kernel_rfl) rfl),
     step_pre rfl (.inl rfl) rfl hncs rfl (knows_in 3 21 (by decide) (by kernel_rfl) rfl rfl) (knows_in 4 22 (by decide) (by kernel_rfl) rfl rfl),
     step_cw rfl (.inl rfl) rfl cxRTag rfl (fun aa ww hw hf hd => ⟨_, (four_args (knows_in 0 18 (by decide) (by kernel_rfl) rfl rfl) (knows_in 1 19 (by decide) (by kernel_rfl) rfl rfl) (knows_in 2 20 (by decide) (by kernel_rfl) rfl rfl) (knows_in 5 23 (by decide) (by kernel_rfl) rfl rfl)) aa ww hw hf hd, HTG.out ww (hB.below hw) (hS.below hw)⟩),
     step_allocV (.inl rfl) inf33 rfl rfl, trivial⟩ ?_
  intro val w1 hw hS hap hla
  have e18 : val 18 = (.agg (ints .u8 key).toArray) := hS 0 18 (by decide) rfl
  have e19 : val 19 = (.agg (ints .u8 nonce).toArray) := hS 1 19 (by decide) rfl
  have e20 : val 20 = (.slice AB lb cb) := hS 2 20 (by decide) rfl
  have e21 : val 21 = (.slice AS ls cs) := hS 3 21 (by decide) rfl
  have e22 : val 22 = (.int .i64 (n : Int)) := hS 4 22 (by decide) rfl
  have e23 : val 23 = (.slice AS n cs) := hS 5 23 (by decide) rfl
  have e24 : val 24 = (.agg (ints .u8 r).toArray) := hS 6 24 (by decide) rfl
  obtain ⟨b11, e11, L11, Z11⟩ := hS 7 11 (by decide) rfl
  simp only [putVals, List.foldl_cons, List.foldl_nil, List.drop_succ_cons, List.drop_zero, Act.put, List.setIfInBounds_toArray, List.set_cons_succ, List.set_cons_zero, e18, e19, e20, e21, e22, e23, e24, e11]
  clear hS hap hla e18 e19 e20 e21 e22 e23 e24 e11 
  have LL11 := hid (show ((ints .u8 r)).length = 16 from (il HRL.out))
  have R11 := Z11.roomA (us := (ints .u8 r)) (LL11.out.trans (zv .u8 16).symm)
  have h11 := Z11.storedA (us := (ints .u8 r)) (LL11.out.trans (zv .u8 16).symm)
  replace hK := hK.next (Below.setCells hw L11 0 (ints .u8 r).toArray.toList)
  replace hN := hN.next (Below.setCells hw L11 0 (ints .u8 r).toArray.toList)
  replace hB := hB.below (Below.setCells hw L11 0 (ints .u8 r).toArray.toList)
  replace hS := hS.below (Below.setCells hw L11 0 (ints .u8 r).toArray.toList)
  replace hW := hW.trans (Below.mono (Below.setCells hw L11 0 (ints .u8 r).toArray.toList) hW.size)
  with_reducible refine wpList_store_mid (op := ⟨none, .store 33 (.tmp 11) (.tmp 24), _, _, _, _⟩) rfl 33 (.tmp 11) (.tmp 24) rfl b11 0 (ints .u8 r).toArray rfl rfl R11 (szA inf33 LL11.out) (ints_all _ _) ?_
  generalize (w1.setCells b11 0 (ints .u8 r).toArray.toList) = w2 at *
  clear hw R11 LL11 Z11 L11
  go_wp2_with (fail)
  go_loopw [12] (fun i wr => ∃ k : Nat, k ≤ 16 ∧ i = .int .i64 k ∧ Hid (r.take k = z2.take k) ∧ Below w2.heap.size w2 wr) (fun i _ => 16 - (intOf i).toNat)
  case atStart => exact ⟨0, by omega, rfl, hid rfl, Below.refl _ _⟩
  case round =>
  obtain ⟨k, hk16, rfl, HT, hbr⟩ := hrel
  by_cases hlt : k < 16
  · have hk0 : (0 : Int) ≤ k := by omega
    have hk1 : (k : Int) < 16 := by omega
    have hwj : IntKind.i64.wrap ((n : Int) + (k : Int)) = (n : Int) + (k : Int) := IntWalk.i64_in _ (by omega)
    have htj : ((n : Int) + (k : Int)).toNat = n + k := by omega
    have hj0 : 0 ≤ (n : Int) + (k : Int) := by omega
    have hj1 : (n : Int) + (k : Int) < ls := by have := EN.out; omega
    obtain ⟨g1', o1, y, rfl, _, hc1, H1⟩ := (hS.below hbr).get (i := n + k) (by rw [HSL.out, HLS.out]; omega)
    obtain ⟨x1, cx, _, H2⟩ := ((h11.next hbr).arr).spot (i := k) (by rw [HRL.out]; exact hlt)
    rw [Nat.zero_add] at cx
    clear hlt
    have HZK := HZ.out k (by omega)
    rw [H1.out] at HZK
    have hzk := hid HZK.symm
    clear HZK
    by_cases hxy : x1 = y
    · have HT2 : Hid (r.take (k + 1) = z2.take (k + 1)) := hid (by rw [take_succ_at H2.out, take_succ_at hzk.out, HT.out, hxy])
      have hdb : (x1 != y) = false := by rw [hxy]; simp
      go_upto_region 8 with (fail)
      go_quiet (fail)
      go_wp2_with (fail)
      go_roundw
      case rel => exact ⟨k + 1, by omega, by go_num, HT2, below_drewN hbr _⟩
      case measure => simp [intOf]; omega
    · have hdb : (x1 != y) = true := bne_iff_ne.2 hxy
      have hg : good = false := by
        rw [← HGD.out]
        refine decide_eq_false fun e => hxy ?_
        have h1 := H2.out
        rw [e, hzk.out] at h1
        injection h1 with h1
        exact h1.symm
      subst hg
      go_upto_region 8 with (fail)
      go_quiet (fail)
      go_wp2_with (fail)
      go_ret2
      exact ⟨none, 0, rfl, Nums.nil, below_drewN (hW.trans (hbr.mono hW.size)) _⟩
  have e : 16 = k := by omega
  subst e
  have hg : good = true := by
    rw [← HGD.out]
    refine decide_eq_true ?_
    have := HT.out
    rwa [List.take_of_length_le (by rw [HRL.out]; decide), List.take_of_length_le (by rw [HZL.out]; decide)] at this
  subst hg
  replace hK := hK.next hbr
  replace hN := hN.next hbr
  replace hB := hB.below hbr
  replace hS := hS.below hbr
  replace hW := hW.trans (hbr.mono hW.size)
  clear hbr hlt hk16 HT h11
  generalize wr = w20 at *
  go_upto_region 10 with (fail)
  have s20 := hW.size
  refine region_spec2 7 45 (fun _ => false) [Is (.agg (ints .u8 key).toArray), Is (.agg (ints .u8 nonce).toArray), Is (.slice AS ls cs), Is (.int .i64 (n : Int)), Is (.slice AS n cs), IsRw .u8 n x, IsRw .u8 n x] [39, 40, 41, 42, 43, 44, 8] (by kernel_rfl) (by kernel_rfl) (by kernel_rfl) (Nat.le_of_eq rfl) (grows_cons (Is.grows _) (grows_cons (Is.grows _) (grows_cons (Is.grows _) (grows_cons (Is.grows _) (grows_cons (Is.grows _) (grows_cons (IsRw.grows _ _ _) (grows_cons (IsRw.grows _ _ _) grows_nil)))))))
    ⟨step_ldV rfl (.inl rfl) (fun _ hw => (hK.next hw).range) rfl Tryd.underlying22 rfl (szV inf41 (il hk.out)) rfl (knows_out 4 (by kernel_rfl) rfl),
     step_ldV rfl (.inl rfl) (fun _ hw => (hN.next hw).range) rfl Tryd.underlying23 rfl (szV infNo (il hn.out)) rfl (knows_out 5 (by kernel_rfl) rfl),
     step_mvP rfl (.inl rfl) rfl rfl (knows_out 3 (by kernel_rfl) rfl),
     step_mvP rfl (.inl rfl) rfl rfl (knows_out 10 (by kernel_rfl) rfl),
     step_pre rfl (.inl rfl) rfl hncs rfl (knows_in 2 41 (by decide) (by kernel_rfl) rfl rfl) (knows_in 3 42 (by decide) (by kernel_rfl) rfl rfl),
     step_callR rfl (.inl rfl) rfl cxRHid rfl (fun aa ww hw hf hd => ⟨_, (four_args (knows_in 0 39 (by decide) (by kernel_rfl) rfl rfl) (knows_in 1 40 (by decide) (by kernel_rfl) rfl rfl) (knows_const _) (knows_in 4 43 (by decide) (by kernel_rfl) rfl rfl)) aa ww hw hf hd, HHD.out ww (hS.below hw)⟩),
     step_copyW rfl (.inl rfl) 5 44 (.inr rfl) rfl (by decide) (by kernel_rfl) rfl rfl, trivial⟩ ?_
  intro val w21 hw hS hap hla
  have e39 : val 39 = (.agg (ints .u8 key).toArray) := hS 0 39 (by decide) rfl
  have e40 : val 40 = (.agg (ints .u8 nonce).toArray) := hS 1 40 (by decide) rfl
  have e41 : val 41 = (.slice AS ls cs) := hS 2 41 (by decide) rfl
  have e42 : val 42 = (.int .i64 (n : Int)) := hS 3 42 (by decide) rfl
  have e43 : val 43 = (.slice AS n cs) := hS 4 43 (by decide) rfl
  obtain ⟨B8, c8, e8, N8⟩ := hS 6 8 (by decide) rfl
  simp only [putVals, List.foldl_cons, List.foldl_nil, List.drop_succ_cons, List.drop_zero, Act.put, List.setIfInBounds_toArray, List.set_cons_succ, List.set_cons_zero, e39, e40, e41, e42, e43, e8]
  generalize val 44 = g44
  clear hS hap hla e39 e40 e41 e42 e43 e8 
  replace hK := hK.next hw
  replace hN := hN.next hw
  replace hB := hB.below hw
  replace hS := hS.below hw
  replace hW := hW.trans (Below.mono hw hW.size)
  clear hw
  go_wp2_with (fail)
  go_ret2
  exact ⟨B8, c8, rfl, N8, hW⟩
theorem ropen_any (key nonce be s : List Int) (AB AS : Option Addr) (lb cb ls cs : Nat) (w : World) (hk : Hid (key.length = 32)) (hn : Hid (nonce.length = 12)) (hkb : HByt key) (hnb : HByt nonce) (HSB : HByt s) (PB : Hid (PL lb be)) (PS : Hid (s.length = ls)) (hls : ls ≤ 400) (hlb : lb ≤ 400) (hcs : ls ≤ cs) (hB : Nums w .u8 AB be) (hA : Nums w .u8 AS s) :
    Calls Tryd.prog 14 #[.agg (ints .u8 key).toArray, .agg (ints .u8 nonce).toArray, .slice AB lb cb, .slice AS ls cs] w fun e w' => ∃ A m d, e = .returned (.tuple #[.slice A m d, .int .i64 (openE key nonce be s)]) ∧ (openL key nonce be s).length = m ∧ Nums w' .u8 A (openL key nonce be s) ∧ Below w.heap.size w w' := by
  unfold openE openL
  rw [PS.out]
  by_cases h16 : ls < 16
  · rw [if_pos h16, if_pos h16]
    exact (ropen_few key nonce AB AS lb cb ls cs w h16).mono fun e w' ⟨he, hb⟩ => ⟨none, 0, 0, he, rfl, Nums.nil, hb⟩
  · rw [if_neg h16, if_neg h16]
    obtain ⟨n, rfl⟩ : ∃ n, ls = n + 16 := ⟨ls - 16, by omega⟩
    rw [Nat.add_sub_cancel]
    have hl0 : (s.take n).length = n := by rw [List.length_take, PS.out]; omega
    have hx : (hidT key nonce (s.take n)).length = n := by rw [hidT_len hk.out hn.out (by rw [hl0]; omega), hl0]
    have hg : goodL key nonce be s = decide (atag key nonce be (s.take n) = s.drop n) := by unfold goodL; rw [PS.out, Nat.add_sub_cancel]
    refine (ropen_core key nonce be s (atag key nonce be (s.take n)) (s.drop n) (hidT key nonce (s.take n)) (goodL key nonce be s) AB AS lb cb (n + 16) cs n w hk hn rfl (by omega) (by omega) hB hA PS
      (hid fun i _ => by rw [List.getElem?_drop]) (hid (by rw [List.length_drop, PS.out]; omega)) (hid (atag_len _ _ _ _)) (hid hg.symm)
      (hid fun w hB hS => rtag11_any key nonce be (s.take n) AB AS lb cb n cs w hk hn hkb hnb PB (hid ⟨hl0, by omega, HSB.take n⟩) hlb (by omega) hB (hS.upto2 n))
      (hid fun w hS => (rhide_all key nonce (s.take n) 1 (4294967296 - 1) n cs AS w hk hn hkb hnb (HSB.take n) (hid hl0) (by omega) (by decide) (by omega) (hS.upto2 n)).mono fun e w' ⟨A, d, he, hN, hb⟩ => ⟨_, he, ⟨A, d, rfl, hN⟩, hb⟩)).mono ?_
    rintro e w' ⟨A, d, he, hN, hb⟩
    cases hgd : goodL key nonce be s
    · rw [hgd] at he hN
      exact ⟨A, 0, d, he, rfl, hN, hb⟩
    · rw [hgd] at he hN
      exact ⟨A, n, d, he, hx, hN, hb⟩
end Go.Proofs.YtpiamcgienkhaaaDoor
