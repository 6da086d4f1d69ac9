/- A crash. -/
import Derived.Test.YtdfalneiapeegaaKTear
namespace Go.Proofs.Ytdfalneiapeegaa
open Go Go.RowKit Go.Maps

theorem NumsS.at_ {S : Nat → Prop} {w : World} {A : Option Addr} {xs : List Int} (h : NumsS S w .u8 A xs) {k : Nat} (hk : k < xs.length) : ∃ b o x, A = some ⟨b, o, none⟩ ∧ S b ∧ w.cell? ⟨b, o + k, none⟩ = some (.int .u8 x) ∧ xs[k]? = some x := by
  obtain ⟨b, o, e, hb, hc⟩ := h (by omega)
  exact ⟨b, o, xs.getD k 0, e, hb, hc k hk, by simp [List.getD, hk]⟩
theorem set_same {α : Type} {l : List α} {j : Nat} {x : α} (h : l[j]? = some x) : l.set j x = l := by
  apply List.ext_getElem?
  intro i
  rw [set_get]
  split
  · rename_i h1; rw [← h1.1, h]
  · rfl
def Byts (cs : List Int) : Prop := ∀ b ∈ cs, 0 ≤ b ∧ b ≤ 255
theorem ch_at {cs : List Int} {k : Nat} {cb : Int} (h : cs[k]? = some cb) (hb : 0 ≤ cb) : ch cs k = (min cb 64).toNat := by
  have hl := (List.getElem?_eq_some_iff.1 h).1
  unfold ch
  rw [if_pos hl, getD_of h]
  omega
theorem ch_out {cs : List Int} {k : Nat} (h : ¬ k < cs.length) : ch cs k = 0 := if_neg h
set_option maxHeartbeats 4000000 in
theorem dcrash_core (p bk bq n ck cq : Nat) (A : Option Addr) (c : Nat) (K : List (List Int)) (W : List (Nat × List Int)) (f li : Int) (off : Bool) (B : Option Addr) (cB cl : Nat) (cs : List Int) (w : World)
    (hT : DT w p bk bq n ck cq A c K (pres K W) W f off li) (hWl : W.length ≤ 900) (hl0 : 0 ≤ li) (hl1 : li ≤ 900) (hcs : Hid (cs.length = cl)) (hcl : cl ≤ 9223372036854775807) (HB : Hid (Byts cs)) (HN : Hid (NumsS (fun b => ¬ footD p bk bq A b ∧ b < w.heap.size) w .u8 B cs)) :
    Calls Try.prog 18 #[.pointer (some ⟨p, 0, none⟩), .slice B cl cB] w fun e w' => e = .returned (.int .i64 0) ∧ DT w' p bk bq n ck cq none 0 (tornN K W cs W.length) (tornN K W cs W.length) [] (-1) false (li + 1) ∧ Chg (footD p bk bq A) w w' := by
  have c0 := hT.blk.cell (i := 0) rfl
  have c3 := hT.blk.cell (i := 3) rfl
  have hli : IntKind.i64.wrap (li + 1) = li + 1 := IntWalk.i64_in _ ⟨by omega, by omega⟩
  obtain ⟨l, hl⟩ : ∃ l, W.length = l := ⟨_, rfl⟩
  have HL := hid hl
  rw [hl] at hWl c3 ⊢
  obtain ⟨z65, s65⟩ := zero_of_info infWr
  have HT0 := hid hT
  have hcl2 : (cl : Int) ≤ 9223372036854775807 := by omega
  clear hl hT hl0 hl1 hcl
  go_enter Try.func18, Try.ntmps18
  go_upto_region 4 with (go_at_call 25; refine (dex_any p _ c0).mono ?_; rintro e w2 ⟨rfl, rfl⟩)
  clear c0 c3
  go_loopw [17] (fun v wr => ∃ k : Nat, k ≤ l ∧ v = .int .i64 k ∧ Hid (DT wr p bk bq n ck cq A c (tornN K W cs k) (pres K W) W f off li) ∧ Hid (Chg (footD p bk bq A) w wr)) (fun v _ => l - (intOf v).toNat)
  case atStart => exact ⟨0, Nat.zero_le _, rfl, HT0, hid (Chg.refl _ w)⟩
  case round =>
    clear HT0
    obtain ⟨k, hk, rfl, HT, HC⟩ := hrel
    by_cases hlt : k < l
    · skip
      obtain ⟨x, hx⟩ : ∃ x, W[k]? = some x := ⟨_, List.getElem?_eq_getElem (by rw [HL.out]; exact hlt)⟩
      obtain ⟨xn, xd⟩ := x
      have hT := HT.out
      have HX : Hid (xn < n ∧ xd.length = 64) := hid (hT.wW.get hx)
      obtain ⟨g, rfl, hrow⟩ := row_write hT.rW hT.wW rfl hx
      have hrng : wr.rangeAt g (k * 65) (wc (xn, xd)) := hrow.range
      obtain ⟨W1, hW1, hB1, hb1, hz1, hth1⟩ := box_wr (xn, xd) HX.out.2 wr
      have hT1 := hT.next hb1
      have hC1 := HC.out.next hb1
      have Hs65 := szA infWr (wc_len (x := (xn, xd)) HX.out.2)
      have Hs65V := szV infWr (wc_len (x := (xn, xd)) HX.out.2)
      have Hall := wc_all (xn, xd)
      have HW1 := hid hW1
      have Hx := hid hx
      have hkl : (k : Int) < l := by omega
      have hk0 : (0 : Int) ≤ k := by omega
      have hN0 : (0 : Int) ≤ xn := by omega
      have hN1 : (xn : Int) < n := by have := HX.out.1; omega
      have HK := hid hlt
      clear hW1 hx hrow HT HC hT hz1 hk hlt
      obtain ⟨s, hs⟩ : ∃ s, (tornN K W cs k)[xn]? = some s := ⟨_, List.getElem?_eq_getElem (by rw [hT1.nK]; exact HX.out.1)⟩
      have Hs := hid hs
      clear hs
      by_cases hkc : k < cl
      · obtain ⟨b0, o0, cb, rfl, hS, hcell, hcb0⟩ := HN.out.at_ (k := k) (by rw [hcs.out]; exact hkc)
        have hcb : ∀ ww, Cl W1 ww → ww.cell? ⟨b0, o0 + k, none⟩ = some (.int .u8 cb) := fun ww hw => by
          have h1 := (hC1.next hw).block b0 hS.2 hS.1
          rw [cell_same h1]; exact hcell
        obtain ⟨hb0, hb1⟩ := HB.out cb (List.mem_of_getElem? hcb0)
        have hwr : IntKind.i64.wrap cb = cb := IntWalk.i64_in _ ⟨by omega, by omega⟩
        have Hcb := hid hcb0
        have Hb := hid hb0
        have hkc : (k : Int) < cl := by omega
        clear hS hcell hcb0 hb0 hb1
        go_upto_region 7 with (first
        | (with_reducible refine wpList_load_mid (op := ⟨some 21, .load 68 (.tmp 20), _, _, _, _⟩) rfl 68 (.tmp 20) rfl g (k * 65) rfl (wc (xn, xd)) _ hrng Try.underlying68 rfl Hs65V ?_; clear hrng)
        | (with_reducible refine wpList_store_mid (op := ⟨none, .store 68 (.tmp 6) (.tmp 21), _, _, _, _⟩) rfl 68 (.tmp 6) (.tmp 21) rfl wr.heap.size 0 (wc (xn, xd)).toArray rfl rfl hth1 Hs65 Hall ?_; rw [HW1.out]; clear hth1))
        refine region_spec2 7 76 (fun _ => false) [Is (Value.pointer (some ⟨p, 0, none⟩)), Is (Value.agg (wc (xn, xd)).toArray), Is (Value.slice (some ⟨b0, o0, none⟩) cl cB), Is (Value.int .i64 (k : Nat)), Is (Value.pointer (some ⟨b0, o0 + k, none⟩)), Is (Value.int .u8 cb), Is (Value.int .i64 cb)] [26, 27, 28, 29, 30, 31, 32] (by kernel_rfl) (by kernel_rfl) (by kernel_rfl) (Nat.le_of_eq rfl) (grows_cons (Is.grows _) (grows_cons (Is.grows _) (grows_cons (Is.grows _) (grows_cons (Is.grows _) (grows_cons (Is.grows _) (grows_cons (Is.grows _) (grows_cons (Is.grows _) grows_nil)))))))
          ⟨(step_ex _ rfl (.inl rfl) rfl (fun a ww hw hf hd => by
         have h0 : a.eval (.tmp 0) = Value.pointer (some ⟨p, 0, none⟩) := ((knows_out 0 (by kernel_rfl) rfl) : Knows _ _ _ _ _ _ 0 _ _) a ww hw hf hd
         revert h0
         generalize a.eval = ev
         intro h0
         unfold execOp
         simp only [h0]
         go_simp)),
           (step_ldV rfl (.inl rfl) (fun _ hw => (hB1.next hw).range) rfl Try.underlying68 rfl Hs65V rfl (knows_out 6 (by kernel_rfl) rfl)),
           (step_ex _ rfl (.inl rfl) rfl (fun a ww hw hf hd => by
         have h1 : a.eval (.tmp 1) = Value.slice (some ⟨b0, o0, none⟩) cl cB := ((knows_out 1 (by kernel_rfl) rfl) : Knows _ _ _ _ _ _ 2 _ _) a ww hw hf hd
         revert h1
         generalize a.eval = ev
         intro h1
         unfold execOp
         simp only [h1]
         go_simp)),
           (step_ex _ rfl (.inl rfl) rfl (fun a ww hw hf hd => by
         have h5 : a.eval (.tmp 5) = Value.int .i64 (k : Nat) := ((knows_out 5 (by kernel_rfl) rfl) : Knows _ _ _ _ _ _ 3 _ _) a ww hw hf hd
         revert h5
         generalize a.eval = ev
         intro h5
         unfold execOp
         simp only [h5]
         go_simp)),
           (step_ex _ rfl (.inl rfl) rfl (fun a ww hw hf hd => by
         have h28 : a.eval (.tmp 28) = Value.slice (some ⟨b0, o0, none⟩) cl cB := ((knows_in 2 28 (by decide) (by kernel_rfl) rfl rfl) : Knows _ _ _ _ _ _ 4 _ _) a ww hw hf hd
         have h29 : a.eval (.tmp 29) = Value.int .i64 (k : Nat) := ((knows_in 3 29 (by decide) (by kernel_rfl) rfl rfl) : Knows _ _ _ _ _ _ 4 _ _) a ww hw hf hd
         have f0 := hk0
         have f1 := hkc
         revert h28 h29
         generalize a.eval = ev
         intro h28 h29
         unfold execOp
         simp only [h28, h29]
         go_simp)),
           (step_ex _ rfl (.inl rfl) rfl (fun a ww hw hf hd => by
         have h30 : a.eval (.tmp 30) = Value.pointer (some ⟨b0, o0 + k, none⟩) := ((knows_in 4 30 (by decide) (by kernel_rfl) rfl rfl) : Knows _ _ _ _ _ _ 5 _ _) a ww hw hf hd
         have f0 : ww.cell? ⟨b0, o0 + k, none⟩ = some (Value.int .u8 cb) := hcb ww hw
         revert h30
         generalize a.eval = ev
         intro h30
         unfold execOp
         simp only [h30]
         go_simp)),
           (step_ex _ rfl (.inl rfl) rfl (fun a ww hw hf hd => by
         have h31 : a.eval (.tmp 31) = Value.int .u8 cb := ((knows_in 5 31 (by decide) (by kernel_rfl) rfl rfl) : Knows _ _ _ _ _ _ 6 _ _) a ww hw hf hd
         have f0 := hwr
         revert h31
         generalize a.eval = ev
         intro h31
         unfold execOp
         simp only [h31]
         go_simp)), trivial⟩ ?_
        intro val W5 hw hS _ _
        have e26 : val 26 = Value.pointer (some ⟨p, 0, none⟩) := hS 0 26 (by decide) rfl
        have e27 : val 27 = Value.agg (wc (xn, xd)).toArray := hS 1 27 (by decide) rfl
        have e28 : val 28 = Value.slice (some ⟨b0, o0, none⟩) cl cB := hS 2 28 (by decide) rfl
        have e29 : val 29 = Value.int .i64 (k : Nat) := hS 3 29 (by decide) rfl
        have e30 : val 30 = Value.pointer (some ⟨b0, o0 + k, none⟩) := hS 4 30 (by decide) rfl
        have e31 : val 31 = Value.int .u8 cb := hS 5 31 (by decide) rfl
        have e32 : val 32 = Value.int .i64 cb := hS 6 32 (by decide) rfl
        simp only [putVals, List.foldl_cons, List.foldl_nil, List.drop_succ_cons, List.drop_zero, Act.put, List.setIfInBounds_toArray, List.set_cons_succ, List.set_cons_zero, e26, e27, e28, e29, e30, e31, e32]
        clear e26 e27 e28 e29 e30 e31 e32 hS
        have hT5 := hT1.next hw
        have hC5 := hC1.next hw
        clear hT1 hC1 hB1 hw
        go_wp2_with (go_at_call 35; refine (dtear_any p bk bq n ck cq (some ⟨g, 0, none⟩) c _ _ W f li cb off xn _ xd s _ hT5 HX.out.1 Hs (hid HX.out.2) Hb.out rfl).mono ?_; rintro e W7 ⟨rfl, hT7, hC7⟩)
        go_roundw
        case rel => exact ⟨k + 1, HK.out, by go_num, hid (by
          rw [tornN_succ Hx.out, getD_of Hs.out, ch_at Hcb.out Hb.out]; exact hT7), hid (hC5.trans hC7 (fun b _ hb => .inr (.inl hb)))⟩
        case measure => have := HK.out; simp [intOf]; omega
      · have hgc : ¬ (k : Int) < cl := by omega
        have HT7 : Hid (DT W1 p bk bq n ck cq (some ⟨g, 0, none⟩) c (tornN K W cs (k + 1)) (pres K W) W f off li) := hid (by
          rw [tornN_succ Hx.out, getD_of Hs.out, ch_out (by rw [hcs.out]; exact hkc), tearS_zero, set_same Hs.out]; exact hT1)
        have HC7 := hid hC1
        clear hkc hT1 hC1 hB1 hb1
        go_wp2_with (first
        | (with_reducible refine wpList_load_mid (op := ⟨some 21, .load 68 (.tmp 20), _, _, _, _⟩) rfl 68 (.tmp 20) rfl g (k * 65) rfl (wc (xn, xd)) _ hrng Try.underlying68 rfl Hs65V ?_; clear hrng)
        | (with_reducible refine wpList_store_mid (op := ⟨none, .store 68 (.tmp 6) (.tmp 21), _, _, _, _⟩) rfl 68 (.tmp 6) (.tmp 21) rfl wr.heap.size 0 (wc (xn, xd)).toArray rfl rfl hth1 Hs65 Hall ?_; rw [HW1.out]; clear hth1))
        go_roundw
        case rel => exact ⟨k + 1, HK.out, by go_num, HT7, HC7⟩
        case measure => have := HK.out; simp [intOf]; omega
    · have e : l = k := by omega
      subst e
      have hge : ¬ (l : Int) < l := by omega
      have c3 := HT.out.blk.cell (i := 3) rfl
      rw [HL.out] at c3
      have HK' := HT.out.nK
      have HT0 : Hid (DT wr p bk bq n ck cq A c (tornN K W cs l) (backN (pres K W) (tornN K W cs l) W 0) W f off li) := HT
      have HC0 := HC
      have HLk := hid hge
      clear HT HC hlt hk HN hcs hcl2 HK'
      go_upto_region 10 with (fail)
      clear c3 hge
      generalize wr = w1 at *
      go_loopw [40] (fun v wr => ∃ k : Nat, k ≤ l ∧ v = .int .i64 k ∧ Hid (DT wr p bk bq n ck cq A c (tornN K W cs l) (backN (pres K W) (tornN K W cs l) W k) W f off li) ∧ Hid (Chg (footD p bk bq A) w wr)) (fun v _ => l - (intOf v).toNat)
      case atStart => exact ⟨0, Nat.zero_le _, rfl, HT0, HC0⟩
      case round =>
        clear HT0 HC0
        obtain ⟨k, hk, rfl, HT, HC⟩ := hrel
        by_cases hlt : k < l
        · skip
          obtain ⟨x, hx⟩ : ∃ x, W[k]? = some x := ⟨_, List.getElem?_eq_getElem (by rw [HL.out]; exact hlt)⟩
          obtain ⟨xn, xd⟩ := x
          have hT := HT.out
          have HX : Hid (xn < n ∧ xd.length = 64) := hid (hT.wW.get hx)
          obtain ⟨g, rfl, hrow⟩ := row_write hT.rW hT.wW rfl hx
          have hrng : wr.rangeAt g (k * 65) (wc (xn, xd)) := hrow.range
          obtain ⟨W1, hW1, hB1, hb1, hz1, hth1⟩ := box_wr (xn, xd) HX.out.2 wr
          have hT1 := hT.next hb1
          have hC1 := HC.out.next hb1
          have Hs65 := szA infWr (wc_len (x := (xn, xd)) HX.out.2)
          have Hs65V := szV infWr (wc_len (x := (xn, xd)) HX.out.2)
          have Hall := wc_all (xn, xd)
          have HW1 := hid hW1
          have Hx := hid hx
          have hkl : (k : Int) < l := by omega
          have hk0 : (0 : Int) ≤ k := by omega
          have hN0 : (0 : Int) ≤ xn := by omega
          have hN1 : (xn : Int) < n := by have := HX.out.1; omega
          have HK := hid hlt
          clear hW1 hx hrow HT HC hT hz1 hk hlt
          obtain ⟨s, hs⟩ : ∃ s, (tornN K W cs l)[xn]? = some s := ⟨_, List.getElem?_eq_getElem (by rw [hT1.nK]; exact HX.out.1)⟩
          have Hs := hid hs
          have Hs64 := hid (hT1.sK.get hs)
          clear hs
          go_upto_region 12 with (first
        | (with_reducible refine wpList_load_mid (op := ⟨some 43, .load 68 (.tmp 42), _, _, _, _⟩) rfl 68 (.tmp 42) rfl g (k * 65) rfl (wc (xn, xd)) _ hrng Try.underlying68 rfl Hs65V ?_; clear hrng)
        | (with_reducible refine wpList_store_mid (op := ⟨none, .store 68 (.tmp 8) (.tmp 43), _, _, _, _⟩) rfl 68 (.tmp 8) (.tmp 43) rfl wr.heap.size 0 (wc (xn, xd)).toArray rfl rfl hth1 Hs65 Hall ?_; rw [HW1.out]; clear hth1))
          refine region_spec2 15 76 (fun _ => false) [Is (Value.pointer (some ⟨p, 0, none⟩)), Is (Value.pointer (some ⟨p, 0, none⟩)), Is (Value.pointer (some ⟨p, 2, none⟩)), Is (Value.slice (some ⟨bq, 0, none⟩) n cq), Is (Value.pointer (some ⟨wr.heap.size, 0, none⟩)), Is (Value.int .i64 (xn : Nat)), Is (Value.pointer (some ⟨p, 0, none⟩)), Is (Value.pointer (some ⟨p, 0, none⟩)), Is (Value.pointer (some ⟨p, 1, none⟩)), Is (Value.slice (some ⟨bk, 0, none⟩) n ck), Is (Value.pointer (some ⟨wr.heap.size, 0, none⟩)), Is (Value.int .i64 (xn : Nat)), Is (Value.pointer (some ⟨bk, xn * 64, none⟩)), Is (Value.agg (ints .u8 s).toArray), Is (Value.pointer (some ⟨bq, xn * 64, none⟩))] [44, 45, 46, 47, 48, 49, 50, 51, 52, 53, 54, 55, 56, 57, 58] (by kernel_rfl) (by kernel_rfl) (by kernel_rfl) (Nat.le_of_eq rfl) (grows_cons (Is.grows _) (grows_cons (Is.grows _) (grows_cons (Is.grows _) (grows_cons (Is.grows _) (grows_cons (Is.grows _) (grows_cons (Is.grows _) (grows_cons (Is.grows _) (grows_cons (Is.grows _) (grows_cons (Is.grows _) (grows_cons (Is.grows _) (grows_cons (Is.grows _) (grows_cons (Is.grows _) (grows_cons (Is.grows _) (grows_cons (Is.grows _) (grows_cons (Is.grows _) grows_nil)))))))))))))))
            ⟨(step_ex _ rfl (.inl rfl) rfl (fun a ww hw hf hd => by
           have h0 : a.eval (.tmp 0) = Value.pointer (some ⟨p, 0, none⟩) := ((knows_out 0 (by kernel_rfl) rfl) : Knows _ _ _ _ _ _ 0 _ _) a ww hw hf hd
           revert h0
           generalize a.eval = ev
           intro h0
           unfold execOp
           simp only [h0]
           go_simp)),
             (step_ex _ rfl (.inl rfl) rfl (fun a ww hw hf hd => by
           have h44 : a.eval (.tmp 44) = Value.pointer (some ⟨p, 0, none⟩) := ((knows_in 0 44 (by decide) (by kernel_rfl) rfl rfl) : Knows _ _ _ _ _ _ 1 _ _) a ww hw hf hd
           revert h44
           generalize a.eval = ev
           intro h44
           unfold execOp
           simp only [h44]
           go_simp)),
             (step_ex _ rfl (.inl rfl) rfl (fun a ww hw hf hd => by
           have h45 : a.eval (.tmp 45) = Value.pointer (some ⟨p, 0, none⟩) := ((knows_in 1 45 (by decide) (by kernel_rfl) rfl rfl) : Knows _ _ _ _ _ _ 2 _ _) a ww hw hf hd
           revert h45
           generalize a.eval = ev
           intro h45
           unfold execOp
           simp only [h45]
           go_simp)),
             (step_ex _ rfl (.inl rfl) rfl (fun a ww hw hf hd => by
           have h46 : a.eval (.tmp 46) = Value.pointer (some ⟨p, 2, none⟩) := ((knows_in 2 46 (by decide) (by kernel_rfl) rfl rfl) : Knows _ _ _ _ _ _ 3 _ _) a ww hw hf hd
           have f0 : ww.cell? ⟨p, 2, none⟩ = some (Value.slice (some ⟨bq, 0, none⟩) n cq) := (hT1.next hw).blk.cell (i := 2) rfl
           revert h46
           generalize a.eval = ev
           intro h46
           unfold execOp
           simp only [h46]
           go_simp)),
             (step_ex _ rfl (.inl rfl) rfl (fun a ww hw hf hd => by
           have h8 : a.eval (.tmp 8) = Value.pointer (some ⟨wr.heap.size, 0, none⟩) := ((knows_out 8 (by kernel_rfl) rfl) : Knows _ _ _ _ _ _ 4 _ _) a ww hw hf hd
           revert h8
           generalize a.eval = ev
           intro h8
           unfold execOp
           simp only [h8]
           go_simp)),
             (step_ex _ rfl (.inl rfl) rfl (fun a ww hw hf hd => by
           have h48 : a.eval (.tmp 48) = Value.pointer (some ⟨wr.heap.size, 0, none⟩) := ((knows_in 4 48 (by decide) (by kernel_rfl) rfl rfl) : Knows _ _ _ _ _ _ 5 _ _) a ww hw hf hd
           have f0 : ww.cell? ⟨wr.heap.size, 0, none⟩ = some (Value.int .i64 (xn : Nat)) := by have h := ((hB1.next hw) 0 _ rfl).1; exact h
           revert h48
           generalize a.eval = ev
           intro h48
           unfold execOp
           simp only [h48]
           go_simp)),
             (step_ex _ rfl (.inl rfl) rfl (fun a ww hw hf hd => by
           have h0 : a.eval (.tmp 0) = Value.pointer (some ⟨p, 0, none⟩) := ((knows_out 0 (by kernel_rfl) rfl) : Knows _ _ _ _ _ _ 6 _ _) a ww hw hf hd
           revert h0
           generalize a.eval = ev
           intro h0
           unfold execOp
           simp only [h0]
           go_simp)),
             (step_ex _ rfl (.inl rfl) rfl (fun a ww hw hf hd => by
           have h50 : a.eval (.tmp 50) = Value.pointer (some ⟨p, 0, none⟩) := ((knows_in 6 50 (by decide) (by kernel_rfl) rfl rfl) : Knows _ _ _ _ _ _ 7 _ _) a ww hw hf hd
           revert h50
           generalize a.eval = ev
           intro h50
           unfold execOp
           simp only [h50]
           go_simp)),
             (step_ex _ rfl (.inl rfl) rfl (fun a ww hw hf hd => by
           have h51 : a.eval (.tmp 51) = Value.pointer (some ⟨p, 0, none⟩) := ((knows_in 7 51 (by decide) (by kernel_rfl) rfl rfl) : Knows _ _ _ _ _ _ 8 _ _) a ww hw hf hd
           revert h51
           generalize a.eval = ev
           intro h51
           unfold execOp
           simp only [h51]
           go_simp)),
             (step_ex _ rfl (.inl rfl) rfl (fun a ww hw hf hd => by
           have h52 : a.eval (.tmp 52) = Value.pointer (some ⟨p, 1, none⟩) := ((knows_in 8 52 (by decide) (by kernel_rfl) rfl rfl) : Knows _ _ _ _ _ _ 9 _ _) a ww hw hf hd
           have f0 : ww.cell? ⟨p, 1, none⟩ = some (Value.slice (some ⟨bk, 0, none⟩) n ck) := (hT1.next hw).blk.cell (i := 1) rfl
           revert h52
           generalize a.eval = ev
           intro h52
           unfold execOp
           simp only [h52]
           go_simp)),
             (step_ex _ rfl (.inl rfl) rfl (fun a ww hw hf hd => by
           have h8 : a.eval (.tmp 8) = Value.pointer (some ⟨wr.heap.size, 0, none⟩) := ((knows_out 8 (by kernel_rfl) rfl) : Knows _ _ _ _ _ _ 10 _ _) a ww hw hf hd
           revert h8
           generalize a.eval = ev
           intro h8
           unfold execOp
           simp only [h8]
           go_simp)),
             (step_ex _ rfl (.inl rfl) rfl (fun a ww hw hf hd => by
           have h54 : a.eval (.tmp 54) = Value.pointer (some ⟨wr.heap.size, 0, none⟩) := ((knows_in 10 54 (by decide) (by kernel_rfl) rfl rfl) : Knows _ _ _ _ _ _ 11 _ _) a ww hw hf hd
           have f0 : ww.cell? ⟨wr.heap.size, 0, none⟩ = some (Value.int .i64 (xn : Nat)) := by have h := ((hB1.next hw) 0 _ rfl).1; exact h
           revert h54
           generalize a.eval = ev
           intro h54
           unfold execOp
           simp only [h54]
           go_simp)),
             (step_ex _ rfl (.inl rfl) rfl (fun a ww hw hf hd => by
           have h53 : a.eval (.tmp 53) = Value.slice (some ⟨bk, 0, none⟩) n ck := ((knows_in 9 53 (by decide) (by kernel_rfl) rfl rfl) : Knows _ _ _ _ _ _ 12 _ _) a ww hw hf hd
           have h55 : a.eval (.tmp 55) = Value.int .i64 (xn : Nat) := ((knows_in 11 55 (by decide) (by kernel_rfl) rfl rfl) : Knows _ _ _ _ _ _ 12 _ _) a ww hw hf hd
           have f0 := hN0
           have f1 := hN1
           revert h53 h55
           generalize a.eval = ev
           intro h53 h55
           unfold execOp
           simp only [h53, h55]
           go_simp)),
             (step_ldV rfl (.inl rfl) (fun _ hw => ((hT1.next hw).rK.sec hT1.sK Hs.out).range) rfl Try.underlying66 rfl (szV infSecV (il Hs64.out)) rfl (knows_in 12 56 (by decide) (by kernel_rfl) rfl rfl)),
             (step_ex _ rfl (.inl rfl) rfl (fun a ww hw hf hd => by
           have h47 : a.eval (.tmp 47) = Value.slice (some ⟨bq, 0, none⟩) n cq := ((knows_in 3 47 (by decide) (by kernel_rfl) rfl rfl) : Knows _ _ _ _ _ _ 14 _ _) a ww hw hf hd
           have h49 : a.eval (.tmp 49) = Value.int .i64 (xn : Nat) := ((knows_in 5 49 (by decide) (by kernel_rfl) rfl rfl) : Knows _ _ _ _ _ _ 14 _ _) a ww hw hf hd
           have f0 := hN0
           have f1 := hN1
           revert h47 h49
           generalize a.eval = ev
           intro h47 h49
           unfold execOp
           simp only [h47, h49]
           go_simp)), trivial⟩ ?_
          intro val W5 hw hS _ _
          have e44 : val 44 = Value.pointer (some ⟨p, 0, none⟩) := hS 0 44 (by decide) rfl
          have e45 : val 45 = Value.pointer (some ⟨p, 0, none⟩) := hS 1 45 (by decide) rfl
          have e46 : val 46 = Value.pointer (some ⟨p, 2, none⟩) := hS 2 46 (by decide) rfl
          have e47 : val 47 = Value.slice (some ⟨bq, 0, none⟩) n cq := hS 3 47 (by decide) rfl
          have e48 : val 48 = Value.pointer (some ⟨wr.heap.size, 0, none⟩) := hS 4 48 (by decide) rfl
          have e49 : val 49 = Value.int .i64 (xn : Nat) := hS 5 49 (by decide) rfl
          have e50 : val 50 = Value.pointer (some ⟨p, 0, none⟩) := hS 6 50 (by decide) rfl
          have e51 : val 51 = Value.pointer (some ⟨p, 0, none⟩) := hS 7 51 (by decide) rfl
          have e52 : val 52 = Value.pointer (some ⟨p, 1, none⟩) := hS 8 52 (by decide) rfl
          have e53 : val 53 = Value.slice (some ⟨bk, 0, none⟩) n ck := hS 9 53 (by decide) rfl
          have e54 : val 54 = Value.pointer (some ⟨wr.heap.size, 0, none⟩) := hS 10 54 (by decide) rfl
          have e55 : val 55 = Value.int .i64 (xn : Nat) := hS 11 55 (by decide) rfl
          have e56 : val 56 = Value.pointer (some ⟨bk, xn * 64, none⟩) := hS 12 56 (by decide) rfl
          have e57 : val 57 = Value.agg (ints .u8 s).toArray := hS 13 57 (by decide) rfl
          have e58 : val 58 = Value.pointer (some ⟨bq, xn * 64, none⟩) := hS 14 58 (by decide) rfl
          simp only [putVals, List.foldl_cons, List.foldl_nil, List.drop_succ_cons, List.drop_zero, Act.put, List.setIfInBounds_toArray, List.set_cons_succ, List.set_cons_zero, e44, e45, e46, e47, e48, e49, e50, e51, e52, e53, e54, e55, e56, e57, e58]
          clear e44 e45 e46 e47 e48 e49 e50 e51 e52 e53 e54 e55 e56 e57 e58 hS
          have hT5 := hT1.next hw
          have hl5 : xn < (backN (pres K W) (tornN K W cs l) W k).length := by rw [hT5.nQ]; exact HX.out.1
          have R5 : W5.there bq (xn * 64) (ints .u8 s).toArray.size := (hT5.rQ.sec hT5.sQ (List.getElem?_eq_getElem hl5)).roomA (by rw [ints_length, ints_length, Hs64.out, hT5.sQ _ (List.getElem_mem hl5)])
          have hT6 := hT5.show (hT5.rQ.putSec hT5.sQ hl5 Hs64.out) (by simp [hT5.nQ]) (hT5.sQ.set Hs64.out xn)
          have hC6 := (hC1.next hw).setCells (b := bq) (.inl (.inr (.inr (.inl rfl)))) (xn * 64) (ints .u8 s).toArray.toList
          have e6 := backN_succ (Q := pres K W) (K := tornN K W cs l) Hx.out
          rw [getD_of Hs.out] at e6
          rw [← e6] at hT6
          have HT6 := hid hT6
          have HC6 := hid hC6
          have Hall2 := ints_all .u8 s
          have Hss := szA infSecV (il (k := .u8) Hs64.out)
          clear hT1 hC1 hB1 hT5 hl5 hT6 hC6 hw hb1 e6
          go_wp2_with (with_reducible refine wpList_store_mid (op := ⟨none, .store 66 (.tmp 58) (.tmp 57), _, _, _, _⟩) rfl 66 (.tmp 58) (.tmp 57) rfl bq (xn * 64) (ints .u8 s).toArray rfl rfl R5 Hss Hall2 ?_; generalize W5.setCells bq (xn * 64) (ints .u8 s).toArray.toList = W6 at *; clear R5)
          go_roundw
          case rel => exact ⟨k + 1, HK.out, by go_num, HT6, HC6⟩
          case measure => have := HK.out; simp [intOf]; omega
        · have e : k = l := by omega
          subst e
          have hge : ¬ (k : Int) < k := by omega
          have hT : DT wr p bk bq n ck cq A c (tornN K W cs k) (tornN K W cs k) W f off li := by
            have h := HT.out
            have hb := back_torn K W cs
            rw [HL.out] at hb
            rwa [hb] at h
          have hC := HC.out
          have c3 := hT.blk.cell (i := 3) rfl
          have x3 := hT.blk.free 3
          have hT4 := hT.drop
          have hC4 := hC.setCell (p := ⟨p, 3, none⟩) (.inl (.inl rfl)) (.slice none 0 0)
          obtain ⟨W4, hW4⟩ : ∃ W4, wr.setCell ⟨p, 3, none⟩ (.slice none 0 0) = W4 := ⟨_, rfl⟩
          rw [hW4] at hT4 hC4
          have HW4 := hid hW4
          have c4 := hT4.blk.cell (i := 4) rfl
          have x4 := hT4.blk.free 4
          have hT5 := hT4.cell 4 (.int .i64 (-1)) (f' := -1) (off' := off) (li' := li) rfl
          have hC5 := hC4.setCell (p := ⟨p, 4, none⟩) (.inl (.inl rfl)) (.int .i64 (-1))
          obtain ⟨W5, hW5⟩ : ∃ W5, W4.setCell ⟨p, 4, none⟩ (.int .i64 (-1)) = W5 := ⟨_, rfl⟩
          rw [hW5] at hT5 hC5
          have HW5 := hid hW5
          have c5 := hT5.blk.cell (i := 5) rfl
          have x5 := hT5.blk.free 5
          have hT6 := hT5.cell 5 (.bool false) (f' := -1) (off' := false) (li' := li) rfl
          have hC6 := hC5.setCell (p := ⟨p, 5, none⟩) (.inl (.inl rfl)) (.bool false)
          obtain ⟨W6, hW6⟩ : ∃ W6, W5.setCell ⟨p, 5, none⟩ (.bool false) = W6 := ⟨_, rfl⟩
          rw [hW6] at hT6 hC6
          have HW6 := hid hW6
          have c6 := hT6.blk.cell (i := 6) rfl
          have x6 := hT6.blk.free 6
          have HT7 := hid (hT6.cell 6 (.int .i64 (li + 1)) (f' := -1) (off' := false) (li' := li + 1) rfl)
          have HC7 := hid (hC6.setCell (p := ⟨p, 6, none⟩) (.inl (.inl rfl)) (.int .i64 (li + 1)))
          clear hT hC HT HC hlt hk hT4 hC4 hW4 hT5 hC5 hW5 hT6 hC6 hW6
          go_upto_region 15 with (fail)
          rw [HW4.out]
          clear c3 x3 HW4
          go_upto_region 16 with (fail)
          rw [HW5.out]
          clear c4 x4 HW5
          go_upto_region 17 with (fail)
          rw [HW6.out]
          clear c5 x5 HW6
          go_wp2
          go_ret
          exact ⟨rfl, HT7.out, HC7.out⟩
theorem dcrash_any (F : Nat → Prop) (p m : Nat) (D : DK) (B : Option Addr) (cB : Nat) (cs : List Int) (w : World) (h : DS F w p D) (hD : Dok m D) (hm : m ≤ 900) (hcl : cs.length ≤ 9223372036854775807) (hb : Byts cs) (hN : NumsS (fun b => ¬ F b ∧ b < w.heap.size) w .u8 B cs) :
    Calls Try.prog 18 #[.pointer (some ⟨p, 0, none⟩), .slice B cs.length cB] w fun e w' => e = .returned (.int .i64 0) ∧ DS (Grw F w w') w' p (crashD D cs) ∧ Chg F w w' := by
  obtain ⟨bk, bq, ck, cq, A, c, f, hT, hf, h1⟩ := h
  have hl1 := hD.l1
  refine (dcrash_core p bk bq D.K.length ck cq A c D.K D.W f D.li D.off B cB cs.length cs w hT (Nat.le_trans hD.w1 hm) hD.l0 (by omega) (hid rfl) hcl (hid hb) (hid (hN.sub fun b ⟨h2, h3⟩ => ⟨fun e => h2 (h1 b e), h3⟩))).mono ?_
  rintro e w' ⟨he, hT', hC⟩
  refine ⟨he, ⟨bk, bq, ck, cq, none, 0, -1, ?_, fun _ => rfl, fun b hb => .inl (h1 b ?_)⟩, hC.sub (fun b _ hb => h1 b hb)⟩
  · show DT w' p bk bq (tornN D.K D.W cs D.W.length).length ck cq none 0 (tornN D.K D.W cs D.W.length) (tornN D.K D.W cs D.W.length) [] (-1) false (D.li + 1)
    rw [tornN_length]
    exact hT'
  · rcases hb with h | h | h | h
    · exact .inl h
    · exact .inr (.inl h)
    · exact .inr (.inr (.inl h))
    · simp [Value.ownBlock] at h
end Go.Proofs.Ytdfalneiapeegaa
