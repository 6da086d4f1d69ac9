/- A flush. -/
import Derived.Test.YtdfalneiapeegaaKRead
namespace Go.Proofs.Ytdfalneiapeegaa
open Go Go.RowKit Go.Maps

set_option maxHeartbeats 4000000 in
theorem dflush_core (p bk bq n ck cq : Nat) (A : Option Addr) (c : Nat) (K Q : List (List Int)) (W : List (Nat × List Int)) (f fu li : Int) (w : World)
    (hT : DT w p bk bq n ck cq A c K Q W f false li) (hf : Hid (f = fu)) (h0 : Hid (-1 ≤ fu)) (h9 : Hid (fu ≤ 9223372036854775807)) (hfu : Hid (fu ≠ 0)) (hWl : W.length ≤ 900) :
    Calls Try.prog 15 #[.pointer (some ⟨p, 0, none⟩)] w fun e w' => e = .returned (.int .i64 0) ∧ (∃ f', DT w' p bk bq n ck cq none 0 (pres K W) Q [] f' false li ∧ f' = (burnD ⟨K, W, fu, false, li⟩).fu) ∧ Chg (footD p bk bq A) w w' := by
  have c0 := hT.blk.cell (i := 0) rfl
  have c5 := hT.blk.cell (i := 5) rfl
  have e0 : errB ⟨K, W, fu, false, li⟩ = 0 := if_neg hfu.out
  have e1 : (burnD ⟨K, W, fu, false, li⟩).off = false := by
    unfold burnD
    rw [if_neg hfu.out]
    split <;> rfl
  have E0 := hid e0
  have E1 := hid e1
  obtain ⟨l, hl⟩ : ∃ l, W.length = l := ⟨_, rfl⟩
  have HL := hid hl
  rw [hl] at hWl
  obtain ⟨z65, s65⟩ := zero_of_info infWr
  clear e0 e1 hl
  go_enter Try.func15, Try.ntmps15
  go_upto_region 8 with (first
    | (go_at_call 32; refine (dstate_any p false _ c0 c5).mono ?_; rintro e w2 ⟨rfl, rfl⟩; clear c5 c0)
    | (go_at_call 34; refine (dburn_any hT hf.out h0.out h9.out).mono ?_; rintro e w3 ⟨rfl, ⟨f', hT3, hf3⟩, hC3⟩
       rw [E0.out]; rw [E1.out] at hT3 hf3; clear hT
       have c3 := hT3.blk.cell (i := 3) rfl; rw [HL.out] at c3
       have Hf3 := hid (hf3 rfl); clear hf3))
  have hC3' := hC3.sub (H := footD p bk bq A) (fun b _ hb => .inl hb)
  clear c3 hC3
  go_loopw [22] (fun v wr => ∃ k : Nat, k ≤ l ∧ v = .int .i64 k ∧ Hid (DT wr p bk bq n ck cq A c (pres K (W.take k)) Q W f' false li) ∧ Hid (Chg (footD p bk bq A) w wr)) (fun v _ => l - (intOf v).toNat)
  case atStart => exact ⟨0, Nat.zero_le _, rfl, hid hT3, hid hC3'⟩
  case round =>
    clear hT3 hC3'
    obtain ⟨k, hk, rfl, HT, HC⟩ := hrel
    by_cases hlt : k < l
    · obtain ⟨x, hx⟩ : ∃ x, W[k]? = some x := ⟨_, List.getElem?_eq_getElem (by rw [HL.out]; exact hlt)⟩
      obtain ⟨xn, xd⟩ := x
      have hT := HT.out
      have HX : Hid (xn < n ∧ xd.length = 64) := hid (hT.wW.get hx)
      obtain ⟨g, rfl, hrow⟩ := row_write hT.rW hT.wW rfl hx
      have hrng : wr.rangeAt g (k * 65) (wc (xn, xd)) := hrow.range
      obtain ⟨W1, hW1, hB1, hb1, hz1, hth1⟩ := box_wr (xn, xd) HX.out.2 wr
      have hT1 := hT.next hb1
      have hC1 := HC.out.next hb1
      have hX1 : Rw W1 wr.heap.size 1 (ints .u8 xd) := Rw.right (us := ints .u8 xd) (vs := [.int .i64 (xn : Int)]) hB1 rfl
      have Hs65 := szA infWr (wc_len (x := (xn, xd)) HX.out.2)
      have Hs65V := szV infWr (wc_len (x := (xn, xd)) HX.out.2)
      have Hall := wc_all (xn, xd)
      have HW1 := hid hW1
      have Hx := hid hx
      have hkl : (k : Int) < l := by omega
      have hk0 : (0 : Int) ≤ k := by omega
      have hN0 : (0 : Int) ≤ xn := by omega
      have hN1 : (xn : Int) < n := by have := HX.out.1; omega
      have HK := hid hlt
      clear hW1 hx hrow HT HC hT hz1 hk hlt
      go_upto_region 10 with (first
        | (with_reducible refine wpList_load_mid (op := ⟨some 25, .load 68 (.tmp 24), _, _, _, _⟩) rfl 68 (.tmp 24) rfl g (k * 65) rfl (wc (xn, xd)) _ hrng Try.underlying68 rfl Hs65V ?_; clear hrng)
        | (with_reducible refine wpList_store_mid (op := ⟨none, .store 68 (.tmp 6) (.tmp 25), _, _, _, _⟩) rfl 68 (.tmp 6) (.tmp 25) rfl wr.heap.size 0 (wc (xn, xd)).toArray rfl rfl hth1 Hs65 Hall ?_; rw [HW1.out]; clear hth1))
      refine region_spec2 9 39 (fun _ => false) [Is (Value.pointer (some ⟨p, 0, none⟩)), Is (Value.pointer (some ⟨p, 0, none⟩)), Is (Value.pointer (some ⟨p, 1, none⟩)), Is (Value.slice (some ⟨bk, 0, none⟩) n ck), Is (Value.pointer (some ⟨wr.heap.size, 0, none⟩)), Is (Value.int .i64 (xn : Nat)), Is (Value.pointer (some ⟨wr.heap.size, 1, none⟩)), Is (Value.agg (ints .u8 xd).toArray), Is (Value.pointer (some ⟨bk, xn * 64, none⟩))] [26, 27, 28, 29, 30, 31, 32, 33, 34] (by kernel_rfl) (by kernel_rfl) (by kernel_rfl) (Nat.le_of_eq rfl) (grows_cons (Is.grows _) (grows_cons (Is.grows _) (grows_cons (Is.grows _) (grows_cons (Is.grows _) (grows_cons (Is.grows _) (grows_cons (Is.grows _) (grows_cons (Is.grows _) (grows_cons (Is.grows _) (grows_cons (Is.grows _) grows_nil)))))))))
        ⟨(step_ex _ rfl (.inl rfl) rfl (fun a ww hw hf hd => by
       have h0 : a.eval (.tmp 0) = Value.pointer (some ⟨p, 0, none⟩) := ((knows_out 0 (by kernel_rfl) rfl) : Knows _ _ _ _ _ _ 0 _ _) a ww hw hf hd
       revert h0
       generalize a.eval = ev
       intro h0
       unfold execOp
       simp only [h0]
       go_simp)),
         (step_ex _ rfl (.inl rfl) rfl (fun a ww hw hf hd => by
       have h26 : a.eval (.tmp 26) = Value.pointer (some ⟨p, 0, none⟩) := ((knows_in 0 26 (by decide) (by kernel_rfl) rfl rfl) : Knows _ _ _ _ _ _ 1 _ _) a ww hw hf hd
       revert h26
       generalize a.eval = ev
       intro h26
       unfold execOp
       simp only [h26]
       go_simp)),
         (step_ex _ rfl (.inl rfl) rfl (fun a ww hw hf hd => by
       have h27 : a.eval (.tmp 27) = Value.pointer (some ⟨p, 0, none⟩) := ((knows_in 1 27 (by decide) (by kernel_rfl) rfl rfl) : Knows _ _ _ _ _ _ 2 _ _) a ww hw hf hd
       revert h27
       generalize a.eval = ev
       intro h27
       unfold execOp
       simp only [h27]
       go_simp)),
         (step_ex _ rfl (.inl rfl) rfl (fun a ww hw hf hd => by
       have h28 : a.eval (.tmp 28) = Value.pointer (some ⟨p, 1, none⟩) := ((knows_in 2 28 (by decide) (by kernel_rfl) rfl rfl) : Knows _ _ _ _ _ _ 3 _ _) a ww hw hf hd
       have f0 : ww.cell? ⟨p, 1, none⟩ = some (Value.slice (some ⟨bk, 0, none⟩) n ck) := (hT1.next hw).blk.cell (i := 1) rfl
       revert h28
       generalize a.eval = ev
       intro h28
       unfold execOp
       simp only [h28]
       go_simp)),
         (step_ex _ rfl (.inl rfl) rfl (fun a ww hw hf hd => by
       have h6 : a.eval (.tmp 6) = Value.pointer (some ⟨wr.heap.size, 0, none⟩) := ((knows_out 6 (by kernel_rfl) rfl) : Knows _ _ _ _ _ _ 4 _ _) a ww hw hf hd
       revert h6
       generalize a.eval = ev
       intro h6
       unfold execOp
       simp only [h6]
       go_simp)),
         (step_ex _ rfl (.inl rfl) rfl (fun a ww hw hf hd => by
       have h30 : a.eval (.tmp 30) = Value.pointer (some ⟨wr.heap.size, 0, none⟩) := ((knows_in 4 30 (by decide) (by kernel_rfl) rfl rfl) : Knows _ _ _ _ _ _ 5 _ _) a ww hw hf hd
       have f0 : ww.cell? ⟨wr.heap.size, 0, none⟩ = some (Value.int .i64 (xn : Nat)) := by have h := ((hB1.next hw) 0 _ rfl).1; exact h
       revert h30
       generalize a.eval = ev
       intro h30
       unfold execOp
       simp only [h30]
       go_simp)),
         (step_ex _ rfl (.inl rfl) rfl (fun a ww hw hf hd => by
       have h6 : a.eval (.tmp 6) = Value.pointer (some ⟨wr.heap.size, 0, none⟩) := ((knows_out 6 (by kernel_rfl) rfl) : Knows _ _ _ _ _ _ 6 _ _) a ww hw hf hd
       revert h6
       generalize a.eval = ev
       intro h6
       unfold execOp
       simp only [h6]
       go_simp)),
         (step_ldV rfl (.inl rfl) (fun _ hw => (hX1.next hw).range) rfl Try.underlying66 rfl (szV infSecV (il HX.out.2)) rfl (knows_in 6 32 (by decide) (by kernel_rfl) rfl rfl)),
         (step_ex _ rfl (.inl rfl) rfl (fun a ww hw hf hd => by
       have h29 : a.eval (.tmp 29) = Value.slice (some ⟨bk, 0, none⟩) n ck := ((knows_in 3 29 (by decide) (by kernel_rfl) rfl rfl) : Knows _ _ _ _ _ _ 8 _ _) a ww hw hf hd
       have h31 : a.eval (.tmp 31) = Value.int .i64 (xn : Nat) := ((knows_in 5 31 (by decide) (by kernel_rfl) rfl rfl) : Knows _ _ _ _ _ _ 8 _ _) a ww hw hf hd
       have f0 := hN0
       have f1 := hN1
       revert h29 h31
       generalize a.eval = ev
       intro h29 h31
       unfold execOp
       simp only [h29, h31]
       go_simp)), trivial⟩ ?_
      intro val W5 hw hS _ _
      have e26 : val 26 = Value.pointer (some ⟨p, 0, none⟩) := hS 0 26 (by decide) rfl
      have e27 : val 27 = Value.pointer (some ⟨p, 0, none⟩) := hS 1 27 (by decide) rfl
      have e28 : val 28 = Value.pointer (some ⟨p, 1, none⟩) := hS 2 28 (by decide) rfl
      have e29 : val 29 = Value.slice (some ⟨bk, 0, none⟩) n ck := hS 3 29 (by decide) rfl
      have e30 : val 30 = Value.pointer (some ⟨wr.heap.size, 0, none⟩) := hS 4 30 (by decide) rfl
      have e31 : val 31 = Value.int .i64 (xn : Nat) := hS 5 31 (by decide) rfl
      have e32 : val 32 = Value.pointer (some ⟨wr.heap.size, 1, none⟩) := hS 6 32 (by decide) rfl
      have e33 : val 33 = Value.agg (ints .u8 xd).toArray := hS 7 33 (by decide) rfl
      have e34 : val 34 = Value.pointer (some ⟨bk, xn * 64, none⟩) := hS 8 34 (by decide) rfl
      simp only [putVals, List.foldl_cons, List.foldl_nil, List.drop_succ_cons, List.drop_zero, Act.put, List.setIfInBounds_toArray, List.set_cons_succ, List.set_cons_zero, e26, e27, e28, e29, e30, e31, e32, e33, e34]
      clear e26 e27 e28 e29 e30 e31 e32 e33 e34 hS
      have hT5 := hT1.next hw
      have hl5 : xn < (pres K (W.take k)).length := by rw [hT5.nK]; exact HX.out.1
      have R5 : W5.there bk (xn * 64) (ints .u8 xd).toArray.size := (hT5.rK.sec hT5.sK (List.getElem?_eq_getElem hl5)).roomA (by rw [ints_length, ints_length, HX.out.2, hT5.sK _ (List.getElem_mem hl5)])
      have hT6 := hT5.keep (hT5.rK.putSec hT5.sK hl5 HX.out.2) (by simp [hT5.nK]) (hT5.sK.set HX.out.2 xn)
      have hC6 := (hC1.next hw).setCells (b := bk) (.inl (.inr (.inl rfl))) (xn * 64) (ints .u8 xd).toArray.toList
      rw [← pres_take (x := (xn, xd)) Hx.out] at hT6
      have HT6 := hid hT6
      have HC6 := hid hC6
      have Hall2 := ints_all .u8 xd
      have Hs64 := szA infSecV (il (k := .u8) HX.out.2)
      clear hT1 hC1 hB1 hX1 hT5 hl5 hT6 hC6 hw hb1
      go_wp2_with (with_reducible refine wpList_store_mid (op := ⟨none, .store 66 (.tmp 34) (.tmp 33), _, _, _, _⟩) rfl 66 (.tmp 34) (.tmp 33) rfl bk (xn * 64) (ints .u8 xd).toArray rfl rfl R5 Hs64 Hall2 ?_; generalize W5.setCells bk (xn * 64) (ints .u8 xd).toArray.toList = W6 at *; clear R5)
      go_roundw
      case rel => exact ⟨k + 1, HK.out, by go_num, HT6, HC6⟩
      case measure => have := HK.out; simp [intOf]; omega
    · have e : k = l := by omega
      subst e
      have hge : ¬ (k : Int) < k := by omega
      have hT : DT wr p bk bq n ck cq A c (pres K W) Q W f' false li := by
        have h := HT.out
        rw [List.take_of_length_le (by rw [HL.out]; exact Nat.le_refl _)] at h
        exact h
      have c3 := hT.blk.cell (i := 3) rfl
      have x3 := hT.blk.free 3
      have HTD := hid hT.drop
      have HCD := hid (HC.out.setCell (p := ⟨p, 3, none⟩) (.inl (.inl rfl)) (.slice none 0 0))
      clear hT HT HC hlt
      go_wp2
      go_ret
      exact ⟨rfl, by rw [← Hf3.out]; exact HTD.out, HCD.out⟩
set_option maxHeartbeats 2000000 in
theorem dflush_any (F : Nat → Prop) (p m : Nat) (D : DK) (w : World) (h : DS F w p D) (hD : Dok m D) (hm : m ≤ 900) :
    Calls Try.prog 15 #[.pointer (some ⟨p, 0, none⟩)] w fun e w' => e = .returned (.int .i64 (flushR D).1) ∧ DS (Grw F w w') w' p (flushR D).2 ∧ Chg F w w' := by
  obtain ⟨A0, c1, A2, c2', f0, c0, c2, c3, c4, c5, c6⟩ := h.cells
  by_cases hoff : D.off = true
  · have e : flushR D = (30, D) := by unfold flushR; rw [if_pos hoff]
    rw [e]
    rw [hoff] at c5
    have hg := hid (fun w' => Grw.refl (w' := w') h)
    clear h hD c2 c3 c4 c6 e hoff
    go_enter Try.func15, Try.ntmps15
    go_wp2_with (go_at_call 32; refine (dstate_any p true _ c0 c5).mono ?_; rintro e w2 ⟨rfl, rfl⟩)
    go_ret
    exact ⟨rfl, hg.out _ rfl⟩
  · have hoff' : D.off = false := by simpa using hoff
    rw [hoff'] at c5
    obtain ⟨bk, bq, ck, cq, A, c, f, hT, hf, h1⟩ := h
    obtain ⟨K, W, fu, off, li⟩ := D
    dsimp only at hT hf hoff' hD
    subst hoff'
    by_cases hfu : fu = 0
    · subst hfu
      have e : flushR ⟨K, W, 0, false, li⟩ = (30, burnD ⟨K, W, 0, false, li⟩) := by unfold flushR; rw [if_neg (by simp), if_pos rfl]
      rw [e]
      have e0 : errB ⟨K, W, 0, false, li⟩ = 30 := rfl
      have E0 := hid e0
      have hf0 := hf rfl
      have H1 := hid h1
      clear e e0 h1 hD hf c2 c3 c4 c6 hoff
      go_enter Try.func15, Try.ntmps15
      go_wp2_with (first
        | (go_at_call 32; refine (dstate_any p false _ c0 c5).mono ?_; rintro e w2 ⟨rfl, rfl⟩; clear c5 c0)
        | (go_at_call 34; refine (dburn_any hT hf0 (by omega) (by omega)).mono ?_; rintro e w3 ⟨rfl, ⟨f', hT3, hf3⟩, hC3⟩; rw [E0.out]))
      go_ret
      exact ⟨rfl, ⟨bk, bq, ck, cq, A, c, f', hT3, hf3, fun b hb => .inl (H1.out b hb)⟩, hC3.sub (fun b _ hb => H1.out b (.inl hb))⟩
    · have e : flushR ⟨K, W, fu, false, li⟩ = (0, { burnD ⟨K, W, fu, false, li⟩ with K := pres K W, W := [] }) := by unfold flushR; rw [if_neg (by simp), if_neg hfu]
      rw [e]
      refine (dflush_core p bk bq K.length ck cq A c K (pres K W) W f fu li w hT (hid (hf rfl)) (hid hD.f0) (hid hD.f1) (hid hfu) (Nat.le_trans hD.w1 hm)).mono ?_
      rintro e w' ⟨he, ⟨f', hT', hf'⟩, hC⟩
      have eo : (burnD ⟨K, W, fu, false, li⟩).off = false := by
        unfold burnD
        rw [if_neg hfu]
        split <;> rfl
      refine ⟨he, ⟨bk, bq, ck, cq, none, 0, f', ?_, fun _ => hf', fun b hb => .inl (h1 b ?_)⟩, hC.sub (fun b _ hb => h1 b hb)⟩
      · show DT w' p bk bq (pres K W).length ck cq none 0 (pres K W) (pres K W) [] f' (burnD ⟨K, W, fu, false, li⟩).off (burnD ⟨K, W, fu, false, li⟩).li
        rw [pres_length, eo, burnD_li]
        exact hT'
      · rcases hb with h | h | h | h
        · exact .inl h
        · exact .inr (.inl h)
        · exact .inr (.inr (.inl h))
        · simp [Value.ownBlock] at h
end Go.Proofs.Ytdfalneiapeegaa
