/- A disk's copy. -/
import Derived.Test.YtdfalneiapeegaaKCrash
import Derived.Laws.Cover3
namespace Go.Proofs.Ytdfalneiapeegaa
open Go Go.RowKit Go.Maps

theorem infSecB : (Try.prog.info? 66).map (fun i => (i.zero, i.size, i.bytes)) = some (some (.agg (ints .u8 Z64).toArray), 64, 64) := by kernel_rfl
theorem ints_oneL (k : IntKind) (l : List (List Int)) : ∀ u ∈ l.flatMap (ints k), u.oneCell' = true := fun u hu => by
  obtain ⟨x, _, hx⟩ := List.mem_flatMap.1 hu
  exact ints_one k x u hx
theorem wcs_one (W : List (Nat × List Int)) : ∀ u ∈ wcs W, u.oneCell' = true := fun u hu => by
  obtain ⟨x, _, hx⟩ := List.mem_flatMap.1 hu
  exact wc_one x u hx
theorem eq_nil {P : Program} (w : World) (t e : TypeId) (a : Option Addr) (l c : Nat) (h : P.underlying t = some (.slice e)) : (binOp .eql t (.slice a l c) (.slice none 0 0)).run P w = .ok (.bool a.isNone) w := by
  unfold binOp
  dsimp only
  simp only [Sem.run_bind, run_equal_slice_nil w t e a l c h, Result.andThen_ok, Sem.run_pure]
set_option maxHeartbeats 2000000 in
theorem cloneS_any (b n c : Nat) (K : List (List Int)) (w : World) (hR : Rw w b 0 (secs K)) (hK : Sz K) (hn : K.length = n) (h0 : 0 < n) (h1 : n ≤ 16384) :
    Calls Try.prog 36 #[.slice (some ⟨b, 0, none⟩) n c] w fun e w' => ∃ g c', e = .returned (.slice (some ⟨g, 0, none⟩) n c') ∧ Rw w' g 0 (secs K) ∧ w.heap.size ≤ g ∧ g < w'.heap.size ∧ Below w.heap.size w w' := by
  obtain ⟨i, hi, hz, hsize, hby⟩ := info_partsT infSecB
  have hl : (secs K).length = n * 64 := by rw [secs_len hK, hn]
  have hlit : (w.alloc (.cells #[] 66)).ownsRow w.heap.size 66 64 (.slice (some ⟨w.heap.size, 0, none⟩) 0 0) 0 [] := World.ownsRow_lit w #[] 0 (Nat.le_refl _) (Nat.zero_le _) (by simp)
  have hR1 := hR.next (below_new w (.cells #[] 66))
  have hb1 := below_new w (.cells #[] 66)
  have hc1 : ∀ j u, (secs K)[j]? = some u → (w.alloc (.cells #[] 66)).cell? ((⟨b, 0, none⟩ : Addr).add j) = some u := fun j u hj => by rw [Addr.add_mid]; exact (hR1 j u hj).1
  have hz64 : (Value.agg (ints .u8 Z64).toArray).cells.size = 64 := by simp [Value.cells, ints_length, Z64]
  have hm1 : 0 + n ≤ maxLen := by unfold maxLen; omega
  have hm2 : (0 + n) * 64 ≤ 140737488355328 := by omega
  have hone : ∀ u ∈ secs K, u.oneCell' = true := ints_oneL .u8 K
  have HL := hid hl
  have H0 := hid h0
  have heq : ∀ w : World, (binOp .eql 55 (.slice (some ⟨b, 0, none⟩) n c) (.slice none 0 0)).run Try.prog w = .ok (.bool false) w := fun w => eq_nil w _ 66 _ n c Try.underlying55
  clear hR hR1 hn hl h0
  go_enter Try.func36, Try.ntmps36
  go_upto_region 3 with (fail)
  go_wp2_with (refine wpList_append_own _ rfl (.tmp 5) (.tmp 6) 55 rfl w.heap.size 66 i _ 64 64 Try.underlying55 hi hz hsize hby hz64 (by decide) _ 0 [] rfl hlit ⟨b, 0, none⟩ n c (secs K) rfl HL.out hc1 hone hm1 hm2 hb1.size ?_; intro v2 w2 hown hg _)
  have hB2 := hb1.grown hg hb1.size (fun g e => by have e2 : some w.heap.size = some g := e; injection e2 with e2; omega)
  obtain ⟨g, cap, e2, h2, h3, h4⟩ : ∃ g cap, v2 = .slice (some ⟨g, 0, none⟩) n cap ∧ w.heap.size ≤ g ∧ g < w2.heap.size ∧ Rw w2 g 0 (secs K) := by
    rw [Nat.zero_add, List.nil_append] at hown
    rcases hown.2 with ⟨_, h⟩ | ⟨g, cap, cur, rfl, hb, hg2, _⟩
    · have := H0.out; omega
    · obtain ⟨g', e, hr⟩ := row_range (hown.mono (Nat.zero_le _)) H0.out
      injection e with e
      injection e with e
      subst e
      exact ⟨g, cap, rfl, hb, (Array.getElem?_eq_some_iff.1 hg2).1, hr⟩
  subst e2
  clear hown hg hc1 hlit heq
  go_ret
  exact ⟨g, cap, rfl, h4, h2, h3, hB2⟩
set_option maxHeartbeats 2000000 in
theorem cloneW_any (A : Option Addr) (l c n : Nat) (W : List (Nat × List Int)) (w : World) (hR : w.ownsRow 0 68 65 (.slice A l c) l (wcs W)) (hW : Wok n W) (hl : W.length = l) (ha : l = 0 → A = none) (h1 : l ≤ 900) :
    Calls Try.prog 37 #[.slice A l c] w fun e w' => ∃ A' c', e = .returned (.slice A' l c') ∧ w'.ownsRow w.heap.size 68 65 (.slice A' l c') l (wcs W) ∧ (l = 0 → A' = none) ∧ Below w.heap.size w w' := by
  have heq : ∀ w : World, (binOp .eql 56 (.slice A l c) (.slice none 0 0)).run Try.prog w = .ok (.bool A.isNone) w := fun w => eq_nil w _ 68 _ l c Try.underlying56
  cases A with
  | none =>
    have l0 : l = 0 := by
      rcases hR.2 with ⟨_, h⟩ | ⟨g, cap, cur, hv, _⟩
      · exact h
      · injection hv with h; cases h
    subst l0
    have hW0 : W = [] := List.eq_nil_of_length_eq_zero hl
    subst hW0
    dsimp only [Option.isNone] at heq
    clear hR hl ha h1
    go_enter Try.func37, Try.ntmps37
    go_wp2
    go_ret
    exact ⟨none, 0, rfl, World.ownsRow_nil _ _ _ _, fun _ => rfl, Below.refl _ _⟩
  | some ad =>
    dsimp only [Option.isNone] at heq
    have l0 : 0 < l := by
      rcases Nat.eq_zero_or_pos l with h | h
      · have := ha h; cases this
      · exact h
    obtain ⟨b, e, hr⟩ := row_range hR l0
    injection e with e
    subst e
    obtain ⟨i, hi, hz, hsize, hby⟩ := info_partsT infWrb
    have hll : (wcs W).length = l * 65 := by rw [wcs_len hW, hl]
    have hlit : (w.alloc (.cells #[] 68)).ownsRow w.heap.size 68 65 (.slice (some ⟨w.heap.size, 0, none⟩) 0 0) 0 [] := World.ownsRow_lit w #[] 0 (Nat.le_refl _) (Nat.zero_le _) (by simp)
    have hR1 := hr.next (below_new w (.cells #[] 68))
    have hb1 := below_new w (.cells #[] 68)
    have hc1 : ∀ j u, (wcs W)[j]? = some u → (w.alloc (.cells #[] 68)).cell? ((⟨b, 0, none⟩ : Addr).add j) = some u := fun j u hj => by rw [Addr.add_mid]; exact (hR1 j u hj).1
    have hz65 : (Value.agg (wc (0, Z64)).toArray).cells.size = 65 := by simp [Value.cells, wc, ints_length, Z64]
    have hm1 : 0 + l ≤ maxLen := by unfold maxLen; omega
    have hm2 : (0 + l) * 72 ≤ 140737488355328 := by omega
    have hone : ∀ u ∈ wcs W, u.oneCell' = true := wcs_one W
    have HL := hid hll
    have H0 := hid l0
    clear hR hr hR1 hl hll l0 ha
    go_enter Try.func37, Try.ntmps37
    go_upto_region 3 with (fail)
    go_wp2_with (refine wpList_append_own _ rfl (.tmp 5) (.tmp 6) 56 rfl w.heap.size 68 i _ 65 72 Try.underlying56 hi hz hsize hby hz65 (by decide) _ 0 [] rfl hlit ⟨b, 0, none⟩ l c (wcs W) rfl HL.out hc1 hone hm1 hm2 hb1.size ?_; intro v2 w2 hown hg _)
    have hB2 := hb1.grown hg hb1.size (fun g e => by have e2 : some w.heap.size = some g := e; injection e2 with e2; omega)
    rw [Nat.zero_add, List.nil_append] at hown
    obtain ⟨A', cap, e2⟩ : ∃ A' cap, v2 = .slice A' l cap := by
      rcases hown.2 with ⟨_, h⟩ | ⟨g, cap, cur, rfl, hb, hg2, _⟩
      · have := H0.out; omega
      · exact ⟨_, _, rfl⟩
    subst e2
    have HO := hid hown
    clear hown hg hc1 hlit heq
    go_ret
    exact ⟨A', cap, rfl, HO.out, fun e => by have := H0.out; omega, hB2⟩
theorem clone_put {w W : World} (h : Below w.heap.size w W) (v : Value) (i : Nat) : Below w.heap.size w (W.setCell ⟨w.heap.size, i, none⟩ v) :=
  ((Chg.of h (fun _ => False)).setCell (p := ⟨w.heap.size, i, none⟩) (.inr (Nat.le_refl _)) v).below (Nat.le_refl _) (fun _ h => h.elim)
theorem clone_far {W : World} {q b : Nat} (h : b ≠ q) (i : Nat) (v : Value) : (W.setCell ⟨q, i, none⟩ v).heap[b]? = W.heap[b]? := Below.heap_setCell _ _ _ _ h
theorem setCell_size (W : World) (a : Addr) (v : Value) : (W.setCell a v).heap.size = W.heap.size := by simp [World.setCell]
set_option maxHeartbeats 4000000 in
theorem dclone_core (p bk bq n ck cq : Nat) (A : Option Addr) (c l : Nat) (K Q : List (List Int)) (W : List (Nat × List Int)) (f li : Int) (off : Bool) (w : World)
    (hT : DT w p bk bq n ck cq A c K Q W f off li) (h0 : 0 < n) (h1 : n ≤ 16384) (hl : W.length = l) (hWl : l ≤ 900) :
    Calls Try.prog 21 #[.pointer (some ⟨p, 0, none⟩)] w fun e w' => e = .returned (.pointer (some ⟨w.heap.size, 0, none⟩)) ∧ (∃ g1 g2 c1 c2 A' c', DT w' w.heap.size g1 g2 n c1 c2 A' c' K Q W f off li ∧ ∀ b, footD w.heap.size g1 g2 A' b → w.heap.size ≤ b ∧ b < w'.heap.size) ∧ Below w.heap.size w w' := by
  have c0 := hT.blk.cell (i := 0) rfl
  have c1 := hT.blk.cell (i := 1) rfl
  have c2 := hT.blk.cell (i := 2) rfl
  have c3 := hT.blk.cell (i := 3) rfl
  have c4 := hT.blk.cell (i := 4) rfl
  have c5 := hT.blk.cell (i := 5) rfl
  have c6 := hT.blk.cell (i := 6) rfl
  rw [hl] at c3
  have hlt := hT.lt
  have hq0 := Blk.new w 58 [.bool true, .slice (some ⟨bk, 0, none⟩) n ck, .slice (some ⟨bq, 0, none⟩) n cq, .slice A l c, .int .i64 f, .bool off, .int .i64 li]
  have hb0 := below_new w (.cells #[.bool true, .slice (some ⟨bk, 0, none⟩) n ck, .slice (some ⟨bq, 0, none⟩) n cq, .slice A l c, .int .i64 f, .bool off, .int .i64 li] 58)
  obtain ⟨W1, hW1⟩ : ∃ W1, w.alloc (.cells #[.bool true, .slice (some ⟨bk, 0, none⟩) n ck, .slice (some ⟨bq, 0, none⟩) n cq, .slice A l c, .int .i64 f, .bool off, .int .i64 li] 58) = W1 := ⟨_, rfl⟩
  have hz1 : w.heap.size < W1.heap.size := by rw [← hW1]; simp
  have hq1 : Blk W1 w.heap.size 58 [.bool true, .slice (some ⟨bk, 0, none⟩) n ck, .slice (some ⟨bq, 0, none⟩) n cq, .slice A l c, .int .i64 f, .bool off, .int .i64 li] := by rw [← hW1]; exact hq0
  have hb1 : Below w.heap.size w W1 := by rw [← hW1]; exact hb0
  have HT : Hid (∀ W', Below w.heap.size w W' → DT W' p bk bq n ck cq A c K Q W f off li) := hid (fun W' h => hT.next h)
  have HW1 := hid hW1
  have HL := hid hl
  clear hT hW1 hl hlt hq0 hb0
  go_enter Try.func21, Try.ntmps21
  go_upto_region 4 with (go_at_call 25; refine (dex_any p _ c0).mono ?_; rintro e w2 ⟨rfl, rfl⟩)
  rw [HW1.out]
  clear HW1 c0 c1 c2 c3 c4 c5 c6
  have hT1 := HT.out _ hb1
  have a1 := hT1.blk.cell (i := 1) rfl
  go_upto_region 5 with (go_at_call 36; refine (cloneS_any bk n ck K _ hT1.rK hT1.sK hT1.nK h0 h1).mono ?_; rintro e W2 ⟨g1, k1, rfl, hR2, hg1, hg1', hb2⟩; have hq2 := hq1.next hb2; have y1 := hq2.cell (i := 1) rfl; have x1 := hq2.free 1)
  have hB2 : Below w.heap.size w W2 := hb1.trans (Below.mono hb2 hb1.size)
  have hq3 := hq2.set 1 (.slice (some ⟨g1, 0, none⟩) n k1)
  have hB3 := clone_put hB2 (.slice (some ⟨g1, 0, none⟩) n k1) 1
  have hR3 := hR2.same (clone_far (W := W2) (q := w.heap.size) (show g1 ≠ w.heap.size by omega) 1 (.slice (some ⟨g1, 0, none⟩) n k1))
  have hz3 := setCell_size W2 ⟨w.heap.size, 1, none⟩ (.slice (some ⟨g1, 0, none⟩) n k1)
  have hg1b : w.heap.size < g1 := by omega
  obtain ⟨W3, hW3⟩ : ∃ W3, W2.setCell ⟨w.heap.size, 1, none⟩ (.slice (some ⟨g1, 0, none⟩) n k1) = W3 := ⟨_, rfl⟩
  rw [hW3] at hq3 hB3 hR3 hz3 ⊢
  rw [← hz3] at hg1'
  clear hq1 hb1 hT1 a1 hq2 y1 x1 hb2 hR2 hB2 hg1 hz1 hW3 hz3
  have hT3 := HT.out _ hB3
  have a2 := hT3.blk.cell (i := 2) rfl
  go_upto_region 6 with (go_at_call 36; refine (cloneS_any bq n cq Q _ hT3.rQ hT3.sQ hT3.nQ h0 h1).mono ?_; rintro e W4 ⟨g2, k2, rfl, hR4, hg2, hg2', hb4⟩; have hq4 := hq3.next hb4; have y2 := hq4.cell (i := 2) rfl; have x2 := hq4.free 2)
  have hB4 : Below w.heap.size w W4 := hB3.trans (Below.mono hb4 hB3.size)
  have hq5 := hq4.set 2 (.slice (some ⟨g2, 0, none⟩) n k2)
  have hB5 := clone_put hB4 (.slice (some ⟨g2, 0, none⟩) n k2) 2
  have hR3' := (hR3.next hb4).same (clone_far (W := W4) (q := w.heap.size) (show g1 ≠ w.heap.size by omega) 2 (.slice (some ⟨g2, 0, none⟩) n k2))
  have hR5 := hR4.same (clone_far (W := W4) (q := w.heap.size) (show g2 ≠ w.heap.size by omega) 2 (.slice (some ⟨g2, 0, none⟩) n k2))
  have hz5 := setCell_size W4 ⟨w.heap.size, 2, none⟩ (.slice (some ⟨g2, 0, none⟩) n k2)
  have hg12 : g1 < g2 := by omega
  have hs4 := hb4.size
  obtain ⟨W5, hW5⟩ : ∃ W5, W4.setCell ⟨w.heap.size, 2, none⟩ (.slice (some ⟨g2, 0, none⟩) n k2) = W5 := ⟨_, rfl⟩
  rw [hW5] at hq5 hB5 hR3' hR5 hz5 ⊢
  rw [← hz5] at hg2'
  clear hq3 hB3 hT3 a2 hq4 y2 x2 hb4 hR4 hR3 hB4 hg2 hW5 hg1' hz5 hs4
  have hT5 := HT.out _ hB5
  have a3 := hT5.blk.cell (i := 3) rfl
  rw [HL.out] at a3
  have hrW := hT5.rW
  rw [HL.out] at hrW
  have ha0 : l = 0 → A = none := fun e => hT5.a0 (List.eq_nil_of_length_eq_zero (by rw [HL.out]; exact e))
  go_upto_region 7 with (go_at_call 37; refine (cloneW_any A l c n W _ hrW hT5.wW HL.out ha0 hWl).mono ?_; rintro e W6 ⟨A', k3, rfl, hr6, ha6, hb6⟩; have hq6 := hq5.next hb6; have y3 := hq6.cell (i := 3) rfl; have x3 := hq6.free 3)
  have hB6 : Below w.heap.size w W6 := hB5.trans (Below.mono hb6 hB5.size)
  have hq7 := hq6.set 3 (.slice A' l k3)
  have hB7 := clone_put hB6 (.slice A' l k3) 3
  have hR7 := (hR3'.next hb6).same (clone_far (W := W6) (q := w.heap.size) (show g1 ≠ w.heap.size by omega) 3 (.slice A' l k3))
  have hR8 := (hR5.next hb6).same (clone_far (W := W6) (q := w.heap.size) (show g2 ≠ w.heap.size by omega) 3 (.slice A' l k3))
  have hr7 := row_setC hr6 hq6 (by decide) 3 (.slice A' l k3)
  have hz7 := setCell_size W6 ⟨w.heap.size, 3, none⟩ (.slice A' l k3)
  have hs6 := hb6.size
  have hlow := hr7.lt
  have hsz5 := hB5.size
  obtain ⟨W7, hW7⟩ : ∃ W7, W6.setCell ⟨w.heap.size, 3, none⟩ (.slice A' l k3) = W7 := ⟨_, rfl⟩
  rw [hW7] at hq7 hB7 hR7 hR8 hr7 hz7 hlow ⊢
  have hDT : DT W7 w.heap.size g1 g2 n k1 k2 A' k3 K Q W f off li := by
    refine ⟨by rw [HL.out]; exact hq7, hR7, hR8, by rw [HL.out]; exact hr7.mono (Nat.zero_le _), by omega, by omega, by omega, fun e => ?_, fun e => ?_, hT5.nK, hT5.nQ, hT5.sK, hT5.sQ, hT5.wW, fun e => ha6 (by rw [← HL.out, e]; rfl), by omega, by omega⟩
    · have := (hlow g1 (by rw [← e]; exact own00 _ _ _)).1; omega
    · have := (hlow g2 (by rw [← e]; exact own00 _ _ _)).1; omega
  have hft : ∀ b, footD w.heap.size g1 g2 A' b → w.heap.size ≤ b ∧ b < W7.heap.size := fun b hb => by
    refine ⟨?_, hDT.lt b hb⟩
    rcases hb with rfl | rfl | rfl | e
    · exact Nat.le_refl _
    · omega
    · omega
    · have := (hlow b (by rw [← e]; exact own00 _ _ _)).1; omega
  clear hq5 hB5 hT5 a3 hq6 y3 x3 hb6 hr6 hR3' hR5 hB6 hW7 hrW ha0 hq7 hR7 hR8 hr7 hlow ha6
  have HD := hid hDT
  have HF := hid hft
  clear hDT hft
  go_wp2
  go_ret
  exact ⟨rfl, ⟨g1, g2, k1, k2, A', k3, HD.out, HF.out⟩, hB7⟩
theorem dclone_any (F : Nat → Prop) (p m : Nat) (D : DK) (w : World) (h : DS F w p D) (hD : Dok m D) (hm : m ≤ 900) (h0 : 0 < D.K.length) :
    Calls Try.prog 21 #[.pointer (some ⟨p, 0, none⟩)] w fun e w' => e = .returned (.pointer (some ⟨w.heap.size, 0, none⟩)) ∧ DS (fun b => w.heap.size ≤ b ∧ b < w'.heap.size) w' w.heap.size D ∧ Below w.heap.size w w' := by
  obtain ⟨bk, bq, ck, cq, A, c, f, hT, hf, h1⟩ := h
  exact (dclone_core p bk bq D.K.length ck cq A c D.W.length D.K (pres D.K D.W) D.W f D.li D.off w hT h0 hD.k1 rfl (Nat.le_trans hD.w1 hm)).mono fun e w' ⟨he, ⟨g1, g2, c1, c2, A', c', hT', hF'⟩, hB⟩ => ⟨he, ⟨g1, g2, c1, c2, A', c', f, hT', hf, hF'⟩, hB⟩
end Go.Proofs.Ytdfalneiapeegaa
