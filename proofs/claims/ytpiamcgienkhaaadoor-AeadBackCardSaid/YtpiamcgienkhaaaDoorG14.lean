/- Texts of this proof, laid together: ASame, ASeal, AOpen, ACase, AAwake. -/
import Derived.Test.YtpiamcgienkhaaaDoorG13
import Derived.Test.YtpiamcgienkhaaaDoorHWSame
/- Same and Equal of any two rows. -/
namespace Go.Proofs.YtpiamcgienkhaaaDoor
open Go Go.RowKit

set_option maxRecDepth 50000 in
theorem rsame_ne (A B : Option Addr) (n m c d : Nat) (w : World) (h : n ≠ m) :
    Calls Tryd.prog 8 #[.slice A n c, .slice B m d] w fun e w' => e = .returned (.bool false) ∧ Below w.heap.size w w' := by
  have h1 : (n : Int) ≠ (m : Int) := by omega
  have hne : decide ((n : Int) = (m : Int)) = false := decide_eq_false h1
  go_enter Tryd.func8, Tryd.ntmps8
  go_wp2
  go_ret
  exact ⟨rfl, Below.refl _ _⟩
set_option maxRecDepth 50000 in
theorem rsame_len (A B : Option Addr) (n c d : Nat) (xs ys : List Int) (g : Bool) (w : World) (hn : n ≤ 4096) (hx : Hid (xs.length = n)) (hy : Hid (ys.length = n)) (hg : Hid (decide (xs = ys) = g)) (hA : Nums w .u8 A xs) (hB : Nums w .u8 B ys) :
    Calls Tryd.prog 8 #[.slice A n c, .slice B n d] w fun e w' => e = .returned (.bool g) ∧ Below w.heap.size w w' := by
  have hn1 : (n : Int) ≤ 4096 := by omega
  clear hn
  go_enter Tryd.func8, Tryd.ntmps8
  go_wp2
  go_loopw [5] (fun i wr => ∃ k : Nat, k ≤ n ∧ i = .int .i64 k ∧ Hid (xs.take k = ys.take k) ∧ Below w.heap.size w wr) (fun i _ => n - (intOf i).toNat)
  case atStart => exact ⟨0, Nat.zero_le _, rfl, hid rfl, Below.refl _ _⟩
  case round =>
    obtain ⟨k, hk, rfl, HT, hb⟩ := hrel
    by_cases hlt : k < n
    · obtain ⟨b1, o1, x, rfl, _, hc1, H1⟩ := (hA.below hb).get (i := k) (by rw [hx.out]; exact hlt)
      obtain ⟨b2, o2, y, rfl, _, hc2, H2⟩ := (hB.below hb).get (i := k) (by rw [hy.out]; exact hlt)
      have hpos : (0 : Int) ≤ k := by omega
      have hlt' : (k : Int) < n := by omega
      by_cases hxy : x = y
      · have HT2 : Hid (xs.take (k + 1) = ys.take (k + 1)) := hid (by rw [take_succ_at H1.out, take_succ_at H2.out, HT.out, hxy])
        have hdb : (x != y) = false := by rw [hxy]; simp
        go_wp2
        go_quiet (fail)
        go_wp2
        go_roundw
        case rel => exact ⟨k + 1, by omega, by go_num, HT2, below_drewN hb _⟩
        case measure => simp [intOf]; omega
      · have hdb : (x != y) = true := bne_iff_ne.2 hxy
        have hgf : g = false := by
          rw [← hg.out]
          refine decide_eq_false fun e => hxy ?_
          have h1 := H1.out
          rw [e, H2.out] at h1
          injection h1 with h1
          exact h1.symm
        subst hgf
        go_wp2
        go_quiet (fail)
        go_wp2
        go_ret
        exact ⟨rfl, below_drewN hb _⟩
    · have e : n = k := by omega
      subst e
      have hgt : g = true := by
        rw [← hg.out]
        refine decide_eq_true ?_
        have := HT.out
        rwa [List.take_of_length_le (by rw [hx.out]; omega), List.take_of_length_le (by rw [hy.out]; omega)] at this
      subst hgt
      go_wp2
      go_ret
      exact ⟨rfl, hb⟩
set_option maxRecDepth 50000 in
theorem rsame_any (A B : Option Addr) (n m c d : Nat) (xs ys : List Int) (g : Bool) (w : World) (hn : n ≤ 4096) (hx : xs.length = n) (hy : ys.length = m) (hg : decide (xs = ys) = g) (hA : Nums w .u8 A xs) (hB : Nums w .u8 B ys) :
    Calls Tryd.prog 8 #[.slice A n c, .slice B m d] w fun e w' => e = .returned (.bool g) ∧ Below w.heap.size w w' := by
  by_cases h : n = m
  · subst h
    exact rsame_len A B n c d xs ys g w hn (hid hx) (hid hy) (hid hg) hA hB
  · have e : g = false := by
      rw [← hg]
      exact decide_eq_false fun e => h (by rw [← hx, ← hy, e])
    subst e
    exact rsame_ne A B n m c d w h
set_option maxRecDepth 50000 in
theorem aequal_any (A B : Option Addr) (n m c d : Nat) (xs ys : List Int) (g : Bool) (w : World) (hn : n ≤ 4096) (hx : xs.length = n) (hy : ys.length = m) (bx : HByt xs) (by_ : HByt ys) (hg : decide (xs = ys) = g) (hA : Nums w .u8 A xs) (hB : Nums w .u8 B ys) :
    Calls Tryd.prog 15 #[.slice A n c, .slice B m d] w fun e w' => e = .returned (.bool g) ∧ Below w.heap.size w w' := by
  by_cases h : n = m
  · subst h
    exact aequal_dec A B n c d xs ys g w hn (hid hx) (hid hy) bx by_ hA hB hg
  · have e : g = false := by
      rw [← hg]
      exact decide_eq_false fun e => h (by rw [← hx, ← hy, e])
    subst e
    exact aequal_ne A B n m c d w h
end Go.Proofs.YtpiamcgienkhaaaDoor

/- Seal: a text is hidden and tagged. -/
namespace Go.Proofs.YtpiamcgienkhaaaDoor
open Go Go.RowKit

set_option maxRecDepth 50000 in
set_option maxHeartbeats 4000000 in
theorem aseal_core (key nonce be t h r : List Int) (AB AT : Option Addr) (lb cb lt ct : Nat) (w : World) (hT : Tabs w) (hk : Hid (key.length = 32)) (hn : Hid (nonce.length = 12)) (hkb : HByt key) (hnb : HByt nonce) (HTB : HByt t) (PB : Hid (PL lb be)) (PT : Hid (t.length = lt)) (hlt : lt ≤ 400) (hlb : lb ≤ 1000) (hcb : lb ≤ cb) (HH : Hid (hideL t (strm key nonce 1 (4294967296 - 1)) = h)) (PH : Hid (PL lt h)) (HR : Hid (atag key nonce be h = r)) (HRL : Hid (r.length = 16)) (hB : Nums w .u8 AB be) (hA : Nums w .u8 AT t) :
    Calls Tryd.prog 7 #[.agg (ints .u8 key).toArray, .agg (ints .u8 nonce).toArray, .slice AB lb cb, .slice AT lt ct] w fun e w' => ∃ A d, e = .returned (.tuple #[.slice A (lt + 16) d, .int .i64 0]) ∧ lt + 16 ≤ d ∧ Nums w' .u8 A (h ++ r) ∧ Below w.heap.size w w' := by
  obtain ⟨z33, s33⟩ := zero_of_info inf33
  have hK := ((Arr.made w .u8 key 22).alloc (.cells (ints .u8 nonce).toArray 23)).rw
  have hN := (Arr.made (w.alloc (.cells (ints .u8 key).toArray 22)) .u8 nonce 23).rw
  have hW := (below_new w (.cells (ints .u8 key).toArray 22)).alloc (by simp) (.cells (ints .u8 nonce).toArray 23)
  rw [World.size_alloc] at hN
  replace hT := hT.next hW
  replace hB := hB.below hW
  replace hA := hA.below hW
  have i32 : (Tryd.prog.info? 22).map (·.size) = some (ints .u8 key).length := szV inf41 (il hk.out)
  have i12 : (Tryd.prog.info? 23).map (·.size) = some (ints .u8 nonce).length := szV infNo (il hn.out)
  have g1 : (lt : Int) ≤ 400 := by omega
  have g2 : (lb : Int) ≤ 1000 := by omega
  have r4 := hK.range
  have r5 := hN.range
  go_enter Tryd.func7, Tryd.ntmps7
  go_wp2_with (first
    | (with_reducible refine wpList_load_mid (op := ⟨some 22, .load 22 (.tmp 4), _, _, _, _⟩) rfl 22 (.tmp 4) rfl w.heap.size 0 rfl (ints .u8 key) _ r4 Tryd.underlying22 rfl i32 ?_)
    | (with_reducible refine wpList_load_mid (op := ⟨some 23, .load 23 (.tmp 5), _, _, _, _⟩) rfl 23 (.tmp 5) rfl (w.heap.size + 1) 0 rfl (ints .u8 nonce) _ r5 Tryd.underlying23 rfl i12 ?_)
    | (go_at_call 16; clear r4 r5; generalize (w.alloc (.cells (ints .u8 key).toArray 22)).alloc (.cells (ints .u8 nonce).toArray 23) = w8 at *
       refine (hide_own key nonce t 1 lt ct AT _ hT hk hn hkb hnb HTB PT (by omega) (by decide) (by omega) hA).mono ?_; rintro e w1 ⟨AH, dh, rfl, hO, hb1, hdh⟩
       rw [HH.out] at hO
       replace hO := hO.lower hW.size
       replace hK := hK.next hb1; replace hN := hN.next hb1; replace hB := hB.below hb1; replace hT := hT.next hb1; replace hW := hW.trans (Below.mono hb1 hW.size)
       have q4 := hK.range
       have q5 := hN.range
       clear hb1 hA)
    | (with_reducible refine wpList_load_mid (op := ⟨some 28, .load 22 (.tmp 4), _, _, _, _⟩) rfl 22 (.tmp 4) rfl w.heap.size 0 rfl (ints .u8 key) _ q4 Tryd.underlying22 rfl i32 ?_)
    | (with_reducible refine wpList_load_mid (op := ⟨some 29, .load 23 (.tmp 5), _, _, _, _⟩) rfl 23 (.tmp 5) rfl (w.heap.size + 1) 0 rfl (ints .u8 nonce) _ q5 Tryd.underlying23 rfl i12 ?_)
    | (go_at_call 10; clear q4 q5; refine (atag_any key nonce be h AB AH lb cb lt dh _ hT hk hn hkb hnb PB PH hcb hdh hB hO.nums).mono ?_; rintro e w2 ⟨rfl, hb2⟩
       rw [HR.out]
       replace hO := hO.stay hb2
       have hb3 := below_new w2 (.cells (ints .u8 (zeros 16)).toArray 33)
       have h12 := Rw.new w2 (ints .u8 (zeros 16)) 33
       have R12 := h12.roomA (us := ints .u8 r) ((il HRL.out).trans (il (zeros_len 16)).symm)
       have X12 := h12.storedA (us := ints .u8 r) ((il HRL.out).trans (il (zeros_len 16)).symm)
       have hb4 := Below.setCells (below_new w2 (.cells (ints .u8 (zeros 16)).toArray 33)) (Nat.le_refl _) 0 (ints .u8 r).toArray.toList
       replace hO := hO.stay hb4
       replace hW := hW.trans (Below.mono (hb2.trans (Below.mono hb4 hb2.size)) hW.size)
       clear hb2 hb3 hb4 h12)
    | (with_reducible refine wpList_store_mid (op := ⟨none, .store 33 (.tmp 12) (.tmp 32), _, _, _, _⟩) rfl 33 (.tmp 12) (.tmp 32) rfl w2.heap.size 0 (ints .u8 r).toArray rfl rfl R12 (szA inf33 (il HRL.out)) (ints_all _ _) ?_
       generalize (w2.alloc (.cells (ints .u8 (zeros 16)).toArray 33)).setCells w2.heap.size 0 (ints .u8 r).toArray.toList = w3 at *
       generalize w2.heap.size = b12 at *
       clear R12)
    | (at_builtin; refine app_nums rfl (.tmp 33) (.tmp 34) 24 rfl w.heap.size 5 .u8 1 Tryd.underlying24 Tryd.info5 (by omega) AH lt dh h rfl hO (some ⟨b12, 0, none⟩) 16 r (by rw [HRL.out]; rfl) X12.nums (by rw [HRL.out, PH.out.1]; omega) hW.size ?_; intro A2 n2 d2 w4 hO2 hG))
  have hW4 : Below w.heap.size w w4 := hW.trans (hG.below hW.size fun g e => (hO.lt g e).1)
  obtain ⟨A3, m3, d3, e3, hm3, hmd3⟩ := slice_of_row2 hO2
  injection e3 with e4 e5 e6
  subst e4 e5 e6
  rw [List.length_append, PH.out.1, HRL.out] at hm3
  subst hm3
  clear hO hG hW
  go_ret2
  exact ⟨A2, d2, rfl, hmd3, hO2.nums, hW4⟩
theorem aseal_any (key nonce be t : List Int) (AB AT : Option Addr) (lb cb lt ct : Nat) (w : World) (hT : Tabs w) (hk : Hid (key.length = 32)) (hn : Hid (nonce.length = 12)) (hkb : HByt key) (hnb : HByt nonce) (HTB : HByt t) (PB : Hid (PL lb be)) (PT : Hid (t.length = lt)) (hlt : lt ≤ 400) (hcb : lb ≤ cb) (hB : Nums w .u8 AB be) (hA : Nums w .u8 AT t) :
    Calls Tryd.prog 7 #[.agg (ints .u8 key).toArray, .agg (ints .u8 nonce).toArray, .slice AB lb cb, .slice AT lt ct] w fun e w' => ∃ A d, e = .returned (.tuple #[.slice A (lt + 16) d, .int .i64 0]) ∧ lt + 16 ≤ d ∧ Nums w' .u8 A (sealL key nonce be t) ∧ Below w.heap.size w w' :=
  aseal_core key nonce be t (hidT key nonce t) (atag key nonce be (hidT key nonce t)) AB AT lb cb lt ct w hT hk hn hkb hnb HTB PB PT hlt PB.out.2.1 hcb (hid rfl) (hid ⟨by rw [hidT_len hk.out hn.out (by rw [PT.out]; omega), PT.out], by omega, hidT_byt _ _ HTB⟩) (hid rfl) (hid (atag_len _ _ _ _)) hB hA
end Go.Proofs.YtpiamcgienkhaaaDoor

/- Open: the tag is compared, and the text shown. -/
namespace Go.Proofs.YtpiamcgienkhaaaDoor
open Go Go.RowKit

theorem Nums.upto2 {w : World} {k : IntKind} {A : Option Addr} {x : List Int} (h : Nums w k A x) (n : Nat) : Nums w k A (x.take n) := fun hp => by
  rw [List.length_take] at hp
  obtain ⟨b, off, e, hlt, hc⟩ := h (by omega)
  refine ⟨b, off, e, hlt, fun i hi => ?_⟩
  rw [List.length_take] at hi
  rw [hc i (by omega)]
  congr 2
  rw [List.getD_eq_getElem?_getD, List.getD_eq_getElem?_getD, List.getElem?_take, if_pos (by omega)]
theorem aopen_few (key nonce : List Int) (AB AS : Option Addr) (lb cb ls cs : Nat) (w : World) (hls : ls < 16) (hlb : lb ≤ 1000) : Calls Tryd.prog 13 #[.agg (ints .u8 key).toArray, .agg (ints .u8 nonce).toArray, .slice AB lb cb, .slice AS ls cs] w fun e w' => e = .returned (.tuple #[.slice none 0 0, .int .i64 10]) ∧ Below w.heap.size w w' := by
  have hW := (below_new w (.cells (ints .u8 key).toArray 22)).alloc (by simp) (.cells (ints .u8 nonce).toArray 23)
  have g1 : (ls : Int) < 16 := by omega
  have g2 : (lb : Int) ≤ 1000 := by omega
  go_enter Tryd.func13, Tryd.ntmps13
  go_wp2_with (fail)
  go_ret2
  exact ⟨rfl, hW⟩
/-- What comes of it. -/
def OpenPost (good : Bool) (n : Nat) (x : List Int) (w : World) (e : Ending) (w' : World) : Prop := ∃ A d, e = .returned (.tuple #[.slice A (if good then n else 0) d, .int .i64 (if good then 0 else 20)]) ∧ Nums w' .u8 A (if good then x else []) ∧ Below w.heap.size w w'
set_option maxRecDepth 50000 in
set_option maxHeartbeats 4000000 in
theorem aopen_core (key nonce r z2 x : List Int) (good : Bool) (AB AS A2 : Option Addr) (lb cb ls cs c2 n : Nat) (w : World) (hT : Tabs w) (hk : Hid (key.length = 32)) (hn : Hid (nonce.length = 12)) (hls : ls = n + 16) (hlb : lb ≤ 1000) (hn4 : n ≤ 400) (hncs : n ≤ cs) (Pr : World → Prop) (Ps : World → Prop)
    (hPr : ∀ w w', Pr w → Below w.heap.size w w' → Pr w') (hPs : ∀ w w', Ps w → Below w.heap.size w w' → Ps w') (hB : Pr w) (hS0 : Ps w) (hR0 : Nums w .u8 A2 z2) (HRL : Hid (r.length = 16)) (HRB : Hid (Byt r)) (HZ2L : Hid (z2.length = 16)) (HZ2B : Hid (Byt z2)) (HGD : Hid (decide (r = z2) = good))
    (hru : Hid (∀ w : World, (Instr.slice 24 (.slice AS ls cs) (some (.int .i64 (n : Int))) none none).run Tryd.prog w = .ok (.slice A2 16 c2) w))
    (HTG : Hid (∀ w, Tabs w → Pr w → Ps w → Calls Tryd.prog 10 #[.agg (ints .u8 key).toArray, .agg (ints .u8 nonce).toArray, .slice AB lb cb, .slice AS n cs] w fun e w' => e = .returned (.agg (ints .u8 r).toArray) ∧ Below w.heap.size w w'))
    (HHD : Hid (∀ w, Tabs w → Ps w → Calls Tryd.prog 16 #[.agg (ints .u8 key).toArray, .agg (ints .u8 nonce).toArray, .int .u32 1, .slice AS n cs] w fun e w' => ∃ v, e = .returned v ∧ IsTup n x v w' ∧ Below w.heap.size w w')) :
    Calls Tryd.prog 13 #[.agg (ints .u8 key).toArray, .agg (ints .u8 nonce).toArray, .slice AB lb cb, .slice AS ls cs] w (OpenPost good n x w) := by
  have hK := ((Arr.made w .u8 key 22).alloc (.cells (ints .u8 nonce).toArray 23)).rw
  have hN := (Arr.made (w.alloc (.cells (ints .u8 key).toArray 22)) .u8 nonce 23).rw
  have hW := (below_new w (.cells (ints .u8 key).toArray 22)).alloc (by simp) (.cells (ints .u8 nonce).toArray 23)
  rw [World.size_alloc] at hN
  replace hT := hT.next hW
  replace hB := hPr _ _ hB hW
  replace hS0 := hPs _ _ hS0 hW
  replace hR0 := hR0.below hW
  have g1 : (ls : Int) ≤ 416 := by omega
  have g3 : ¬ (ls : Int) < 16 := by omega
  have g2 : (lb : Int) ≤ 1000 := by omega
  have e16 : (ls : Int) - 16 = (n : Int) := by omega
  clear hls hlb hn4
  go_enter Tryd.func13, Tryd.ntmps13
  go_upto_region 6 with (fail)
  generalize ((w.alloc (.cells (ints .u8 key).toArray 22)).alloc (.cells (ints .u8 nonce).toArray 23)) = w0 at *
  have s0 := hW.size
  refine region_spec2 8 47 (fun i => i == 7) [Is (.agg (ints .u8 key).toArray), Is (.agg (ints .u8 nonce).toArray), Is (.slice AB lb cb), Is (.slice AS ls cs), Is (.int .i64 (n : Int)), Is (.slice AS n cs), Is (.agg (ints .u8 r).toArray), IsZV w0.heap.size (ints .u8 (zeros 16))] [26, 27, 28, 29, 30, 31, 32, 11] (by kernel_rfl) (by kernel_rfl) (by kernel_rfl) (Nat.le_of_eq rfl) (grows_cons (Is.grows _) (grows_cons (Is.grows _) (grows_cons (Is.grows _) (grows_cons (Is.grows _) (grows_cons (Is.grows _) (grows_cons (Is.grows _) (grows_cons (Is.grows _) (grows_cons (IsZV.grows _ _) grows_nil))))))))
    ⟨step_ldV rfl (.inl rfl) (fun _ hw => (hK.next hw).range) rfl Tryd.underlying22 rfl (szV inf41 (il hk.out)) rfl (knows_out 4 (by kernel_rfl) rfl),
     step_ldV rfl (.inl rfl) (fun _ hw => (hN.next hw).range) rfl Tryd.underlying23 rfl (szV infNo (il hn.out)) rfl (knows_out 5 (by kernel_rfl) rfl),
     step_mvP rfl (.inl rfl) rfl rfl (knows_out 2 (by kernel_rfl) rfl),
     step_mvP rfl (.inl rfl) rfl rfl (knows_out 3 (by kernel_rfl) rfl),
     step_mvP rfl (.inl rfl) rfl rfl (knows_out 10 (by kernel_rfl) rfl),
     step_pre rfl (.inl rfl) rfl hncs rfl (knows_in 3 29 (by decide) (by kernel_rfl) rfl rfl) (knows_in 4 30 (by decide) (by kernel_rfl) rfl rfl),
     step_cw rfl (.inl rfl) rfl cxTag rfl (fun aa ww hw hf hd => ⟨_, (four_args (knows_in 0 26 (by decide) (by kernel_rfl) rfl rfl) (knows_in 1 27 (by decide) (by kernel_rfl) rfl rfl) (knows_in 2 28 (by decide) (by kernel_rfl) rfl rfl) (knows_in 5 31 (by decide) (by kernel_rfl) rfl rfl)) aa ww hw hf hd, HTG.out ww (hT.next hw) (hPr _ _ hB hw) (hPs _ _ hS0 hw)⟩),
     step_allocV (.inl rfl) inf33 rfl rfl, trivial⟩ ?_
  intro val w1 hw hS hap hla
  have e26 : val 26 = (.agg (ints .u8 key).toArray) := hS 0 26 (by decide) rfl
  have e27 : val 27 = (.agg (ints .u8 nonce).toArray) := hS 1 27 (by decide) rfl
  have e28 : val 28 = (.slice AB lb cb) := hS 2 28 (by decide) rfl
  have e29 : val 29 = (.slice AS ls cs) := hS 3 29 (by decide) rfl
  have e30 : val 30 = (.int .i64 (n : Int)) := hS 4 30 (by decide) rfl
  have e31 : val 31 = (.slice AS n cs) := hS 5 31 (by decide) rfl
  have e32 : val 32 = (.agg (ints .u8 r).toArray) := hS 6 32 (by decide) rfl
  obtain ⟨b11, e11, L11, Z11⟩ := hS 7 11 (by decide) rfl
  simp only [putVals, List.foldl_cons, List.foldl_nil, List.drop_succ_cons, List.drop_zero, Act.put, List.setIfInBounds_toArray, List.set_cons_succ, List.set_cons_zero, e26, e27, e28, e29, e30, e31, e32, e11]
  clear hS hap hla e26 e27 e28 e29 e30 e31 e32 e11 
  have LL11 := hid (show ((ints .u8 r)).length = 16 from (il HRL.out))
  have R11 := Z11.roomA (us := (ints .u8 r)) (LL11.out.trans (zv .u8 16).symm)
  have h11 := Z11.storedA (us := (ints .u8 r)) (LL11.out.trans (zv .u8 16).symm)
  replace hK := hK.next (Below.setCells hw L11 0 (ints .u8 r).toArray.toList)
  replace hN := hN.next (Below.setCells hw L11 0 (ints .u8 r).toArray.toList)
  replace hT := hT.next (Below.setCells hw L11 0 (ints .u8 r).toArray.toList)
  replace hB := hPr _ _ hB (Below.setCells hw L11 0 (ints .u8 r).toArray.toList)
  replace hS0 := hPs _ _ hS0 (Below.setCells hw L11 0 (ints .u8 r).toArray.toList)
  replace hR0 := hR0.below (Below.setCells hw L11 0 (ints .u8 r).toArray.toList)
  replace hW := hW.trans (Below.mono (Below.setCells hw L11 0 (ints .u8 r).toArray.toList) hW.size)
  with_reducible refine wpList_store_mid (op := ⟨none, .store 33 (.tmp 11) (.tmp 32), _, _, _, _⟩) rfl 33 (.tmp 11) (.tmp 32) rfl b11 0 (ints .u8 r).toArray rfl rfl R11 (szA inf33 LL11.out) (ints_all _ _) ?_
  generalize (w1.setCells b11 0 (ints .u8 r).toArray.toList) = w2 at *
  clear hw R11 LL11 Z11 L11
  go_upto_region 7 with (fail)
  have s2 := hW.size
  refine region_spec2 5 47 (fun _ => false) [Is (.slice (some ⟨b11, 0, none⟩) 16 16), Is (.slice AS ls cs), Is (.int .i64 (n : Int)), Is (.slice A2 16 c2), Is (.bool good)] [33, 34, 35, 36, 37] (by kernel_rfl) (by kernel_rfl) (by kernel_rfl) (Nat.le_of_eq rfl) (grows_cons (Is.grows _) (grows_cons (Is.grows _) (grows_cons (Is.grows _) (grows_cons (Is.grows _) (grows_cons (Is.grows _) grows_nil)))))
    ⟨step_one rfl (.inl rfl) (fun ev w h hc => ex_slA (P := Tryd.prog) ua33 ze33 (m := 16) rfl rfl ev w h hc) rfl (knows_out 11 (by kernel_rfl) rfl),
     step_mvP rfl (.inl rfl) rfl rfl (knows_out 3 (by kernel_rfl) rfl),
     step_mvP rfl (.inl rfl) rfl rfl (knows_out 10 (by kernel_rfl) rfl),
     step_suf rfl (.inl rfl) rfl (fun w => hru.out w) rfl (knows_in 1 34 (by decide) (by kernel_rfl) rfl rfl) (knows_in 2 35 (by decide) (by kernel_rfl) rfl rfl),
     step_cw rfl (.inl rfl) rfl cxEqu rfl (fun aa ww hw hf hd => ⟨_, (two_args (knows_in 0 33 (by decide) (by kernel_rfl) rfl rfl) (knows_in 3 36 (by decide) (by kernel_rfl) rfl rfl)) aa ww hw hf hd, aequal_dec _ A2 16 16 c2 r z2 good ww (by decide) HRL (hid HZ2L.out) HRB.out HZ2B.out ((h11.next hw)).nums (hR0.below hw) HGD.out⟩), trivial⟩ ?_
  intro val w3 hw hS hap hla
  have e33 : val 33 = (.slice (some ⟨b11, 0, none⟩) 16 16) := hS 0 33 (by decide) rfl
  have e34 : val 34 = (.slice AS ls cs) := hS 1 34 (by decide) rfl
  have e35 : val 35 = (.int .i64 (n : Int)) := hS 2 35 (by decide) rfl
  have e36 : val 36 = (.slice A2 16 c2) := hS 3 36 (by decide) rfl
  have e37 : val 37 = (.bool good) := hS 4 37 (by decide) rfl
  simp only [putVals, List.foldl_cons, List.foldl_nil, List.drop_succ_cons, List.drop_zero, Act.put, List.setIfInBounds_toArray, List.set_cons_succ, List.set_cons_zero, e33, e34, e35, e36, e37]
  clear hS hap hla e33 e34 e35 e36 e37 
  replace hK := hK.next hw
  replace hN := hN.next hw
  replace hT := hT.next hw
  replace hB := hPr _ _ hB hw
  replace hS0 := hPs _ _ hS0 hw
  replace hR0 := hR0.below hw
  replace h11 := h11.next hw
  replace hW := hW.trans (Below.mono hw hW.size)
  clear hw
  cases good
  · go_wp2_with (fail)
    go_ret2
    exact ⟨none, 0, rfl, Nums.nil, hW⟩
  · go_upto_region 9 with (fail)
    have s3 := hW.size
    refine region_spec2 9 47 (fun _ => false) [Is (.agg (ints .u8 key).toArray), Is (.agg (ints .u8 nonce).toArray), Is (.slice AS ls cs), Is (.int .i64 (n : Int)), Is (.slice AS n cs), IsTup n x, IsPart n x, Is (.int .i64 0), IsPart n x] [39, 40, 41, 42, 43, 44, 45, 46, 8] (by kernel_rfl) (by kernel_rfl) (by kernel_rfl) (Nat.le_of_eq rfl) (grows_cons (Is.grows _) (grows_cons (Is.grows _) (grows_cons (Is.grows _) (grows_cons (Is.grows _) (grows_cons (Is.grows _) (grows_cons (IsTup.grows _ _) (grows_cons (IsPart.grows _ _) (grows_cons (Is.grows _) (grows_cons (IsPart.grows _ _) grows_nil)))))))))
      ⟨step_ldV rfl (.inl rfl) (fun _ hw => (hK.next hw).range) rfl Tryd.underlying22 rfl (szV inf41 (il hk.out)) rfl (knows_out 4 (by kernel_rfl) rfl),
       step_ldV rfl (.inl rfl) (fun _ hw => (hN.next hw).range) rfl Tryd.underlying23 rfl (szV infNo (il hn.out)) rfl (knows_out 5 (by kernel_rfl) rfl),
       step_mvP rfl (.inl rfl) rfl rfl (knows_out 3 (by kernel_rfl) rfl),
       step_mvP rfl (.inl rfl) rfl rfl (knows_out 10 (by kernel_rfl) rfl),
       step_pre rfl (.inl rfl) rfl hncs rfl (knows_in 2 41 (by decide) (by kernel_rfl) rfl rfl) (knows_in 3 42 (by decide) (by kernel_rfl) rfl rfl),
       step_callR rfl (.inl rfl) rfl cxHid rfl (fun aa ww hw hf hd => ⟨_, (four_args (knows_in 0 39 (by decide) (by kernel_rfl) rfl rfl) (knows_in 1 40 (by decide) (by kernel_rfl) rfl rfl) (knows_const _) (knows_in 4 43 (by decide) (by kernel_rfl) rfl rfl)) aa ww hw hf hd, HHD.out ww (hT.next hw) (hPs _ _ hS0 hw)⟩),
       tup_fst rfl (.inl rfl) rfl rfl (knowsW_in 5 44 (by decide) (by kernel_rfl) rfl rfl),
       tup_snd rfl (.inl rfl) rfl rfl (knowsW_in 5 44 (by decide) (by kernel_rfl) rfl rfl),
       step_copyW rfl (.inl rfl) 6 45 (.inr rfl) rfl (by decide) (by kernel_rfl) rfl rfl, trivial⟩ ?_
    intro val w4 hw hS hap hla
    have e39 : val 39 = (.agg (ints .u8 key).toArray) := hS 0 39 (by decide) rfl
    have e40 : val 40 = (.agg (ints .u8 nonce).toArray) := hS 1 40 (by decide) rfl
    have e41 : val 41 = (.slice AS ls cs) := hS 2 41 (by decide) rfl
    have e42 : val 42 = (.int .i64 (n : Int)) := hS 3 42 (by decide) rfl
    have e43 : val 43 = (.slice AS n cs) := hS 4 43 (by decide) rfl
    have e46 : val 46 = (.int .i64 0) := hS 7 46 (by decide) rfl
    obtain ⟨B8, c8, e8, h8, N8⟩ := hS 8 8 (by decide) rfl
    simp only [putVals, List.foldl_cons, List.foldl_nil, List.drop_succ_cons, List.drop_zero, Act.put, List.setIfInBounds_toArray, List.set_cons_succ, List.set_cons_zero, e39, e40, e41, e42, e43, e46, e8]
    generalize val 44 = g44
    generalize val 45 = g45
    clear hS hap hla e39 e40 e41 e42 e43 e46 e8 
    replace hK := hK.next hw
    replace hN := hN.next hw
    replace hT := hT.next hw
    replace hB := hPr _ _ hB hw
    replace hS0 := hPs _ _ hS0 hw
    replace hR0 := hR0.below hw
    replace h11 := h11.next hw
    replace hW := hW.trans (Below.mono hw hW.size)
    clear hw
    go_wp2_with (fail)
    go_ret2
    exact ⟨B8, c8, rfl, N8, hW⟩
/-- The error, and the text. -/
def openE (key nonce be s : List Int) : Int := if s.length < 16 then 10 else if goodL key nonce be s then 0 else 20
def openL (key nonce be s : List Int) : List Int := if s.length < 16 then [] else if goodL key nonce be s then hidT key nonce (s.take (s.length - 16)) else []
theorem aopen_any (key nonce be s : List Int) (AB AS : Option Addr) (lb cb ls cs : Nat) (w : World) (hT : Tabs w) (hk : Hid (key.length = 32)) (hn : Hid (nonce.length = 12)) (hkb : HByt key) (hnb : HByt nonce) (HSB : HByt s) (PB : Hid (PL lb be)) (PS : Hid (s.length = ls)) (hls : ls ≤ 416) (hcb : lb ≤ cb) (hcs : ls ≤ cs) (hB : Nums w .u8 AB be) (hA : Nums w .u8 AS s) :
    Calls Tryd.prog 13 #[.agg (ints .u8 key).toArray, .agg (ints .u8 nonce).toArray, .slice AB lb cb, .slice AS ls cs] w fun e w' => ∃ A m d, e = .returned (.tuple #[.slice A m d, .int .i64 (openE key nonce be s)]) ∧ (openL key nonce be s).length = m ∧ Nums w' .u8 A (openL key nonce be s) ∧ Below w.heap.size w w' := by
  unfold openE openL
  rw [PS.out]
  by_cases h16 : ls < 16
  · rw [if_pos h16, if_pos h16]
    exact (aopen_few key nonce AB AS lb cb ls cs w h16 PB.out.2.1).mono fun e w' ⟨he, hb⟩ => ⟨none, 0, 0, he, rfl, Nums.nil, hb⟩
  · rw [if_neg h16, if_neg h16]
    obtain ⟨n, rfl⟩ : ∃ n, ls = n + 16 := ⟨ls - 16, by omega⟩
    rw [Nat.add_sub_cancel]
    obtain ⟨A2, hru, hR⟩ := rest_any (c := cs) (h := n) hA PS.out hcs (by omega)
    have e16 : n + 16 - n = 16 := by omega
    rw [e16] at hru
    have hl0 : (s.take n).length = n := by rw [List.length_take, PS.out]; omega
    have hx : (hidT key nonce (s.take n)).length = n := by rw [hidT_len hk.out hn.out (by rw [hl0]; omega), hl0]
    have hg : goodL key nonce be s = decide (atag key nonce be (s.take n) = s.drop n) := by unfold goodL; rw [PS.out, Nat.add_sub_cancel]
    refine (aopen_core key nonce (atag key nonce be (s.take n)) (s.drop n) (hidT key nonce (s.take n)) (goodL key nonce be s) AB AS A2 lb cb (n + 16) cs (cs - n) n w hT hk hn rfl PB.out.2.1 (by omega) (by omega) (fun w => Nums w .u8 AB be) (fun w => Nums w .u8 AS (s.take n)) (fun _ _ h hb => h.below hb) (fun _ _ h hb => h.below hb) hB (hA.upto2 n) hR
      (hid (atag_len _ _ _ _)) (hid (atag_byt _ _ _ _)) (hid (by rw [List.length_drop, PS.out]; omega)) (hid (HSB.drop n)) (hid hg.symm) (hid hru)
      (hid fun w hT hB hS => atag_any key nonce be (s.take n) AB AS lb cb n cs w hT hk hn hkb hnb PB (hid ⟨hl0, by omega, HSB.take n⟩) hcb (by omega) hB hS)
      (hid fun w hT hS => (hide_own key nonce (s.take n) 1 n cs AS w hT hk hn hkb hnb (HSB.take n) (hid hl0) (by omega) (by decide) (by omega) hS).mono fun e w' ⟨A, d, he, hO, hb, hd⟩ => ⟨_, he, ⟨A, d, rfl, hd, hO.nums⟩, hb⟩)).mono ?_
    rintro e w' ⟨A, d, he, hN, hb⟩
    cases hgd : goodL key nonce be s
    · rw [hgd] at he hN
      exact ⟨A, 0, d, he, rfl, hN, hb⟩
    · rw [hgd] at he hN
      exact ⟨A, n, d, he, hx, hN, hb⟩
end Go.Proofs.YtpiamcgienkhaaaDoor

/- The case that the laws are handed, in its box; what stays true of it; the chapter's example. -/
namespace Go.Proofs.YtpiamcgienkhaaaDoor
open Go Go.RowKit

def caseA (key nonce : List Int) (A : Option Addr) (n c : Nat) : List Value := (ints .u8 key ++ ints .u8 nonce) ++ [.slice A n c]
/-- What the laws know of a world: the table, the case in box b, and what is told beside. -/
structure LawW (w : World) (b : Nat) (key nonce be : List Int) (A : Option Addr) (n c : Nat) : Prop where
  tb : Tabs w
  ky : Arr w b 0 .u8 key
  no : Arr w b 32 .u8 nonce
  ce : w.cell? ⟨b, 44, none⟩ = some (.slice A n c)
  bs : Nums w .u8 A be
set_option maxRecDepth 50000 in
theorem LawW.next {w w' : World} {b : Nat} {key nonce be : List Int} {A : Option Addr} {n c : Nat} (h : LawW w b key nonce be A n c) (hb : Below w.heap.size w w') : LawW w' b key nonce be A n c := by
  have hlt : b < w.heap.size := World.block_lt_of_cell? w _ h.ce
  exact ⟨h.tb.next hb, h.ky.below hb hlt, h.no.below hb hlt, (hb.cell (p := ⟨b, 44, none⟩) hlt).trans h.ce, h.bs.below hb⟩
set_option maxRecDepth 50000 in
theorem LawW.new {w : World} {key nonce be : List Int} {A : Option Addr} {n c : Nat} (hT : Tabs w) (hB : Nums w .u8 A be) (hk : key.length = 32) (hn : nonce.length = 12) : LawW (w.alloc (.cells (caseA key nonce A n c).toArray 26)) w.heap.size key nonce be A n c := by
  have hr : Rw (w.alloc (.cells (caseA key nonce A n c).toArray 26)) w.heap.size 0 (caseA key nonce A n c) := Rw.new w _ 26
  refine ⟨hT.next (below_new _ _), fun i x hi => ?_, fun i x hi => ?_, ?_, hB.below (below_new _ _)⟩
  · have := (List.getElem?_eq_some_iff.1 hi).1
    refine hr i (.int .u8 x) ?_
    unfold caseA
    rw [List.getElem?_append_left (by simp [ints]; omega), List.getElem?_append_left (by simp [ints]; omega)]
    simp [ints, hi]
  · have := (List.getElem?_eq_some_iff.1 hi).1
    have h := hr (32 + i) (.int .u8 x) (by
      unfold caseA
      rw [List.getElem?_append_left (by simp [ints]; omega), List.getElem?_append_right (by simp [ints]; omega)]
      have e : 32 + i - (ints .u8 key).length = i := by simp [ints, hk]
      rw [e]
      simp [ints, hi])
    rwa [Nat.zero_add] at h
  · have h := (hr 44 (.slice A n c) (by
      unfold caseA
      rw [List.getElem?_append_right (by simp [ints, hk, hn])]
      simp [ints, hk, hn])).1
    rwa [Nat.zero_add] at h
set_option maxRecDepth 50000 in
theorem openL_len {key nonce be s : List Int} (hk : key.length = 32) (hn : nonce.length = 12) (hs : s.length ≤ 1000) : (openL key nonce be s).length ≤ s.length := by
  unfold openL
  split
  · simp
  · split
    · rw [hidT_len hk hn (by rw [List.length_take]; omega), List.length_take]; omega
    · simp
set_option maxRecDepth 50000 in
theorem openL_byt {key nonce be s : List Int} (hb : HByt s) : HByt (openL key nonce be s) := by
  unfold openL
  split
  · intro x hx; cases hx
  · split
    · exact hidT_byt _ _ (hb.take _)
    · intro x hx; cases hx
set_option maxRecDepth 50000 in
/-- What was sealed is opened. -/
theorem open_seal {key nonce be t : List Int} (hk : key.length = 32) (hn : nonce.length = 12) (ht : t.length ≤ 900) (hb : HByt t) : openE key nonce be (sealL key nonce be t) = 0 ∧ openL key nonce be (sealL key nonce be t) = t := by
  have hl : (sealL key nonce be t).length = t.length + 16 := sealL_len hk hn (by omega)
  have hg := good_seal (be := be) hk hn (show t.length ≤ 1000 by omega)
  have h16 : ¬ (sealL key nonce be t).length < 16 := by omega
  simp only [openE, openL, if_neg h16, hg, if_true]
  rw [seal_take hk hn (by omega), hidT_twice hk hn (by omega) hb]
  exact ⟨trivial, rfl⟩
set_option maxRecDepth 50000 in
/-- What is opened is what is sealed so; else there is nothing. -/
theorem open_cases {key nonce be s : List Int} (hk : key.length = 32) (hn : nonce.length = 12) (hs : s.length ≤ 1000) (hb : HByt s) : (openE key nonce be s = 0 ∧ sealL key nonce be (openL key nonce be s) = s ∧ (openL key nonce be s).length + 16 = s.length) ∨ (openE key nonce be s ≠ 0 ∧ openL key nonce be s = []) := by
  unfold openE openL
  by_cases h : s.length < 16
  · rw [if_pos h, if_pos h]
    exact .inr ⟨by decide, rfl⟩
  · rw [if_neg h, if_neg h]
    cases hg : goodL key nonce be s
    · exact .inr ⟨by decide, rfl⟩
    · refine .inl ⟨rfl, seal_good hk hn hs hb hg, ?_⟩
      simp only [if_true]
      rw [hidT_len hk hn (by rw [List.length_take]; omega), List.length_take]; omega
/-- The chapter's example. -/
def kE : List Int := 1 :: zeros 31
def nE : List Int := 2 :: zeros 11
set_option maxRecDepth 50000 in
theorem builtK : Tryd.prog.built 22 [(0, .int .u8 1)] = some (ints .u8 kE).toArray := by kernel_rfl
set_option maxRecDepth 50000 in
theorem builtN : Tryd.prog.built 23 [(0, .int .u8 2)] = some (ints .u8 nE).toArray := by kernel_rfl
set_option maxRecDepth 50000 in
theorem kE_byt : HByt kE := fun x hx => by
  rcases List.mem_cons.1 hx with h | h
  · omega
  · exact byt_zeros 31 x h
set_option maxRecDepth 50000 in
theorem nE_byt : HByt nE := fun x hx => by
  rcases List.mem_cons.1 hx with h | h
  · omega
  · exact byt_zeros 11 x h
end Go.Proofs.YtpiamcgienkhaaaDoor

/- The chapter's example holds. -/
namespace Go.Proofs.YtpiamcgienkhaaaDoor
open Go Go.RowKit

set_option maxRecDepth 50000 in
theorem pl_nil : PL 0 [] := ⟨rfl, by decide, fun x hx => by cases hx⟩
set_option maxRecDepth 50000 in
set_option maxHeartbeats 4000000 in
theorem a_awake (w : World) (hT : Tabs w) : Calls Tryd.prog 6 #[] w fun e w' => e = .returned (.bool true) ∧ Below w.heap.size w w' := by
  obtain ⟨i0, hi0, hz0, hz1, hz2⟩ := info_parts Tryd.info5
  go_enter Tryd.func6, Tryd.ntmps6
  go_wp2_with (first
    | (with_reducible refine wpList_built (o := ⟨some 4, .build 22 _, _, _, _, _⟩) rfl 22 _ rfl [(0, .int .u8 1)] (ints .u8 kE).toArray rfl builtK ?_)
    | (with_reducible refine wpList_built (o := ⟨some 5, .build 23 _, _, _, _, _⟩) rfl 23 _ rfl [(0, .int .u8 2)] (ints .u8 nE).toArray rfl builtN ?_)
    | (at_make; refine wpList_make_full _ rfl _ _ 24 rfl w.heap.size 5 i0 _ 1 Tryd.underlying24 hi0 hz0 hz1 .i64 .i64 _ _ 5 rfl rfl rfl rfl (by rw [hz2]; omega) (by unfold maxLen; omega) (Nat.le_refl _) ?_
       intro w1 hown hgrow
       have hb1 : Below w.heap.size w w1 := (Below.refl _ _).grown hgrow (Nat.le_refl _) (by simp)
       have hO : Owns w1 w.heap.size 5 .u8 (.slice (some ⟨w.heap.size, 0, none⟩) 5 5) (zeros 5) := by
         unfold Owns zeros
         rw [List.length_replicate, List.map_replicate, ← toList_madeCells_one]
         exact hown
       have hT1 := hT.next hb1
       clear hown hgrow)
    | (go_at_call 7; refine (aseal_any kE nE [] (zeros 5) none _ 0 0 5 5 _ hT1 (hid rfl) (hid rfl) kE_byt nE_byt (byt_zeros 5) (hid pl_nil) (hid rfl) (by decide) (Nat.le_refl _) Nums.nil hO.nums).mono ?_; rintro e w2 ⟨A2, d2, rfl, _, hN2, hb2⟩)
    | (go_at_call 12; refine (asize_any 5 _ (by decide) (by decide)).mono ?_; rintro e w3 ⟨rfl, hb3⟩; rw [show sizeN 5 = 21 from rfl]))
  go_ret
  exact ⟨rfl, hb1.trans ((hb2.mono hb1.size).trans (hb3.mono (Nat.le_trans hb1.size hb2.size)))⟩
end Go.Proofs.YtpiamcgienkhaaaDoor
