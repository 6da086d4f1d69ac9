/- A write. -/
import Derived.Test.YtdfalneiapeegaaKNew
namespace Go.Proofs.Ytdfalneiapeegaa
open Go Go.RowKit Go.Maps

theorem infWr : (Try.prog.info? 68).map (fun i => (i.zero, i.size)) = some (some (.agg (wc (0, Z64)).toArray), 65) := by kernel_rfl
theorem infWrb : (Try.prog.info? 68).map (fun i => (i.zero, i.size, i.bytes)) = some (some (.agg (wc (0, Z64)).toArray), 65, 72) := by kernel_rfl
theorem infSecV : (Try.prog.info? 66).map (fun i => (i.zero, i.size)) = some (some (.agg (ints .u8 Z64).toArray), 64) := by kernel_rfl
theorem fn64 {xs : List Int} (h : xs.length = 64) : ∃ f : Nat → Int, xs = (List.range 64).map f := by
  refine ⟨fun i => xs.getD i 0, ?_⟩
  apply List.ext_getElem
  · simp [h]
  · intro i h1 h2
    simp [List.getD, h1]
set_option maxRecDepth 50000 in
theorem built_wr (n : Int) {xs : List Int} (h : xs.length = 64) : Try.prog.built 68 [(0, .int .i64 n), (1, .agg (ints .u8 xs).toArray)] = some (Value.int .i64 n :: ints .u8 xs).toArray := by
  obtain ⟨f, rfl⟩ := fn64 h
  kernel_rfl
set_option maxRecDepth 50000 in
theorem filled_wr (n : Nat) {xs : List Int} (h : xs.length = 64) : Instr.fill (fun i => some (i * 65, 65)) ((Array.range (1 * 65)).map ((Value.agg (wc (0, Z64)).toArray).cells[· % (Value.agg (wc (0, Z64)).toArray).cells.size]!)) [(0, .agg (wc (n, xs)).toArray)] = some (wc (n, xs)).toArray := by
  obtain ⟨f, rfl⟩ := fn64 h
  kernel_rfl
theorem wc_all (x : Nat × List Int) : (wc x).toArray.all (·.oneCell') = true := all_oneCell_toArray (wc_one x)
theorem box_wr (x : Nat × List Int) (hx : x.2.length = 64) (w : World) : ∃ W, (w.alloc (.cells (wc (0, Z64)).toArray 68)).setCells w.heap.size 0 (wc x).toArray.toList = W ∧ Rw W w.heap.size 0 (wc x) ∧ Below w.heap.size w W ∧ w.heap.size < W.heap.size ∧ (w.alloc (.cells (wc (0, Z64)).toArray 68)).there w.heap.size 0 (wc x).toArray.size := by
  have h1 := Rw.new w (wc (0, Z64)) 68
  have hl : (wc x).length = (wc (0, Z64)).length := by rw [wc_len hx, wc_len Z64_len]
  refine ⟨_, rfl, h1.stored hl, Below.setCells (below_new w _) (Nat.le_refl _) 0 _, ?_, h1.roomA hl⟩
  rw [cellsSize]; simp
section
variable {w w3 : World} {p bk bq n ck cq : Nat} {A A' : Option Addr} {c c' : Nat} {K Q : List (List Int)} {W : List (Nat × List Int)} {f : Int} {off : Bool} {li : Int} {x : Nat × List Int}
/-- One more write waits. -/
theorem DT.pend (h : DT w p bk bq n ck cq A c K Q W f off li) (hx : x.1 < n ∧ x.2.length = 64) (hg : w.grownBy w3 (Value.slice A W.length c).ownBlock) (hr : w3.ownsRow 0 68 65 (.slice A' (W.length + 1) c') (W.length + 1) (wcs W ++ wc x)) (ho : (Value.slice A' (W.length + 1) c').ownBlock = (Value.slice A W.length c).ownBlock ∨ (Value.slice A' (W.length + 1) c').ownBlock = some w.heap.size) :
    DT (w3.setCell ⟨p, 3, none⟩ (.slice A' (W.length + 1) c')) p bk bq n ck cq A' c' K Q (W ++ [x]) f off li ∧ Chg (footD p bk bq A) w (w3.setCell ⟨p, 3, none⟩ (.slice A' (W.length + 1) c')) ∧ (∀ b, footD p bk bq A' b → footD p bk bq A b ∨ (w.heap.size ≤ b ∧ b < (w3.setCell ⟨p, 3, none⟩ (.slice A' (W.length + 1) c')).heap.size)) ∧ Blk w3 p 58 [.bool true, .slice (some ⟨bk, 0, none⟩) n ck, .slice (some ⟨bq, 0, none⟩) n cq, .slice A W.length c, .int .i64 f, .bool off, .int .i64 li] := by
  have hp3 := h.blk.grown hg (blk_ne h.blk h.rW (by decide))
  have e : (W ++ [x]).length = W.length + 1 := by simp
  have hs : (w3.setCell ⟨p, 3, none⟩ (.slice A' (W.length + 1) c')).heap.size = w3.heap.size := by simp [World.setCell]
  have hK : ∀ b, b ≠ p → (w3.setCell ⟨p, 3, none⟩ (.slice A' (W.length + 1) c')).heap[b]? = w3.heap[b]? := fun b hb => Below.heap_setCell _ _ _ _ hb
  have nk : some bk ≠ (Value.slice A W.length c).ownBlock := fun e => h.ak (by rw [← own00 A W.length c, ← e])
  have nq : some bq ≠ (Value.slice A W.length c).ownBlock := fun e => h.aq (by rw [← own00 A W.length c, ← e])
  have hK0 := (hK bk (Ne.symm h.pk)).trans (hg.block bk h.bks nk)
  have hQ0 := (hK bq (Ne.symm h.pq)).trans (hg.block bq h.bqs nq)
  have ho' : (Value.slice A' 0 0).ownBlock = (Value.slice A 0 0).ownBlock ∨ (Value.slice A' 0 0).ownBlock = some w.heap.size := by
    rw [own00, own00 A] at ho
    exact ho
  refine ⟨⟨?_, h.rK.same hK0, h.rQ.same hQ0, ?_, h.pk, h.pq, h.kq, fun e2 => ?_, fun e2 => ?_, h.nK, h.nQ, h.sK, h.sQ, h.wW.app hx, fun e => by simp at e, ?_, ?_⟩, ?_, fun b hb => ?_, hp3⟩
  · rw [e]; exact hp3.set 3 _
  · rw [e, wcs_app]; exact row_setC hr hp3 (by decide) 3 _
  · rcases ho' with h1 | h1
    · exact h.ak (h1.symm.trans e2)
    · have := h.bks; rw [h1] at e2; injection e2 with e2; omega
  · rcases ho' with h1 | h1
    · exact h.aq (h1.symm.trans e2)
    · have := h.bqs; rw [h1] at e2; injection e2 with e2; omega
  · rw [hs]; exact Nat.lt_of_lt_of_le h.bks hg.size
  · rw [hs]; exact Nat.lt_of_lt_of_le h.bqs hg.size
  · exact ((Chg.refl _ w).grown hg (fun g e => .inl (.inr (.inr (.inr (by rw [← e]; exact (own00 _ _ _).symm)))))).setCell (p := ⟨p, 3, none⟩) (.inl (.inl rfl)) _
  · rcases hb with h1 | h1 | h1 | h1
    · exact .inl (.inl h1)
    · exact .inl (.inr (.inl h1))
    · exact .inl (.inr (.inr (.inl h1)))
    · rcases ho' with h2 | h2
      · exact .inl (.inr (.inr (.inr (h2.symm.trans h1))))
      · have h3 := h1
        rw [h2] at h1; injection h1 with h1
        refine .inr ⟨by omega, ?_⟩
        rw [hs]
        exact rowlt hr b (by rw [← h3]; exact own00 _ _ _)
end
set_option maxHeartbeats 4000000 in
theorem dwrite_core (p bk bq n ck cq : Nat) (A : Option Addr) (c : Nat) (K Q : List (List Int)) (W : List (Nat × List Int)) (f fu li : Int) (N : Nat) (B : Option Addr) (cB : Nat) (xs : List Int) (w : World)
    (hT : DT w p bk bq n ck cq A c K Q W f false li) (hf : Hid (f = fu)) (h0 : Hid (-1 ≤ fu)) (h9 : Hid (fu ≤ 9223372036854775807)) (hN : N < n) (hWl : W.length ≤ 900) (HX : Hid (xs.length = 64)) (hB : Nums w .u8 B xs) :
    Calls Try.prog 14 #[.pointer (some ⟨p, 0, none⟩), .int .i64 N, .slice B 64 cB] w fun e w' => e = .returned (.int .i64 (errB ⟨K, W ++ [(N, xs)], fu, false, li⟩)) ∧ (∃ A' c' f', DT w' p bk bq n ck cq A' c' K (Q.set N xs) (W ++ [(N, xs)]) f' (burnD ⟨K, W ++ [(N, xs)], fu, false, li⟩).off li ∧ ((burnD ⟨K, W ++ [(N, xs)], fu, false, li⟩).off = false → f' = (burnD ⟨K, W ++ [(N, xs)], fu, false, li⟩).fu) ∧ ∀ b, footD p bk bq A' b → footD p bk bq A b ∨ (w.heap.size ≤ b ∧ b < w'.heap.size)) ∧ Chg (footD p bk bq A) w w' := by
  have c0 := hT.blk.cell (i := 0) rfl
  have c2 := hT.blk.cell (i := 2) rfl
  have c5 := hT.blk.cell (i := 5) rfl
  obtain ⟨b0, o0, rfl, hb0, hcell⟩ := hB (by rw [HX.out]; decide)
  have hrng : w.rangeAt b0 o0 (ints .u8 xs) := Nums.range hB
  have Hhas : Hid (true = !decide ((N : Int) < 0 ∨ (n : Int) ≤ N)) := hid (by rw [decide_eq_false (by omega)]; rfl)
  have hN0 : (0 : Int) ≤ N := by omega
  have hN1 : (N : Int) < n := by omega
  obtain ⟨z65, s65⟩ := zero_of_info infWr
  have harr : ∀ (W : World), (Instr.arrayAt 66 (.slice (some ⟨b0, o0, none⟩) 64 cB)).run Try.prog W = .ok (.pointer (some ⟨b0, o0, none⟩)) W := fun W => run_arrayAt W 66 5 64 _ 64 cB (by kernel_rfl) (Nat.le_refl _)
  obtain ⟨W1, hW1, hB1, hb1, hz1, hth1⟩ := box_wr (N, xs) HX.out w
  have hT1 := hT.next hb1
  have hC1 : Chg (footD p bk bq A) w W1 := Chg.of hb1 _
  have HbB := built_wr (N : Int) HX.out
  have Hs65 := szA infWr (wc_len (x := (N, xs)) HX.out)
  have Hall := wc_all (N, xs)
  have HW1 := hid hW1
  have HNn := hid hN
  have HT := hid hT
  clear hT hW1 hcell hN hB
  go_enter Try.func14, Try.ntmps14
  go_upto_region 9 with (first
    | (go_at_call 32; refine (dstate_any p false _ c0 c5).mono ?_; rintro e w2 ⟨rfl, rfl⟩; clear c5)
    | (go_at_call 33; refine (dhas_any p n cq _ N true _ c2 Hhas).mono ?_; rintro e w2 ⟨rfl, rfl⟩; clear c2)
    | (with_reducible refine wpList_load_mid (op := ⟨some 24, .load 66 (.tmp 23), _, _, _, _⟩) rfl 66 (.tmp 23) rfl b0 o0 rfl (ints .u8 xs) _ hrng Try.underlying66 rfl (szV infSecV (il HX.out)) ?_; clear hrng)
    | (refine wpList_build_eq (o := ⟨some 25, .build 68 #[(0, .tmp 21), (1, .tmp 24)], _, _, _, _⟩) rfl 68 #[(0, .tmp 21), (1, .tmp 24)] rfl (wc (N, xs)).toArray ?hb ?_; (case hb => (simp only [List.map_toArray, List.map_cons, List.map_nil]; exact HbB)))
    | (with_reducible refine wpList_store_mid (op := ⟨none, .store 68 (.tmp 8) (.tmp 25), _, _, _, _⟩) rfl 68 (.tmp 8) (.tmp 25) rfl w.heap.size 0 (wc (N, xs)).toArray rfl rfl hth1 Hs65 Hall ?_))
  rw [HW1.out]
  clear HW1 hth1 c0 z65 s65
  refine region_evt 8 7 46 [false, true, true, true, true, true, true, false] [Is (Value.pointer (some ⟨p, 0, none⟩)), Is (Value.pointer (some ⟨p, 0, none⟩)), Is (Value.pointer (some ⟨p, 0, none⟩)), Is (Value.pointer (some ⟨p, 3, none⟩)), Is (Value.slice A W.length c), Is (Value.agg (wc (N, xs)).toArray), IsRowV W1.heap.size 1 (wc (N, xs)), (fun _ _ => True)] [26, 27, 28, 29, 30, 31, 32, 33] (AppR 68 65 (.slice A W.length c) W.length (wcs W) (wc (N, xs))) (by kernel_rfl) (by kernel_rfl) (by kernel_rfl) (Nat.le_of_eq rfl) (grows_cons (Is.grows _) (grows_cons (Is.grows _) (grows_cons (Is.grows _) (grows_cons (Is.grows _) (grows_cons (Is.grows _) (grows_cons (Is.grows _) (grows_cons (IsRowV.grows _ _ _) (grows_cons (fun _ _ _ _ _ => trivial) grows_nil))))))))
    ⟨.inr (.inr ⟨rfl, pure_ex (Value.pointer (some ⟨p, 0, none⟩)) rfl rfl (fun a w0 ww hw hf hd => by
   have h0 : a.eval (.tmp 0) = Value.pointer (some ⟨p, 0, none⟩) := ((knows_out 0 (by kernel_rfl) rfl) : Knows _ _ _ _ _ _ 0 _ _) a w0 hw hf hd
   revert h0
   generalize a.eval = ev
   intro h0
   unfold execOp
   simp only [h0]
   go_simp)⟩),
     .inr (.inl ⟨rfl, step_ex _ rfl (.inl rfl) rfl (fun a ww hw hf hd => by
   have h0 : a.eval (.tmp 0) = Value.pointer (some ⟨p, 0, none⟩) := ((knows_out 0 (by kernel_rfl) rfl) : Knows _ _ _ _ _ _ 1 _ _) a ww hw hf hd
   revert h0
   generalize a.eval = ev
   intro h0
   unfold execOp
   simp only [h0]
   go_simp)⟩),
     .inr (.inl ⟨rfl, step_ex _ rfl (.inl rfl) rfl (fun a ww hw hf hd => by
   have h27 : a.eval (.tmp 27) = Value.pointer (some ⟨p, 0, none⟩) := ((knows_in 1 27 (by decide) (by kernel_rfl) rfl rfl) : Knows _ _ _ _ _ _ 2 _ _) a ww hw hf hd
   revert h27
   generalize a.eval = ev
   intro h27
   unfold execOp
   simp only [h27]
   go_simp)⟩),
     .inr (.inl ⟨rfl, step_ex _ rfl (.inl rfl) rfl (fun a ww hw hf hd => by
   have h28 : a.eval (.tmp 28) = Value.pointer (some ⟨p, 0, none⟩) := ((knows_in 2 28 (by decide) (by kernel_rfl) rfl rfl) : Knows _ _ _ _ _ _ 3 _ _) a ww hw hf hd
   revert h28
   generalize a.eval = ev
   intro h28
   unfold execOp
   simp only [h28]
   go_simp)⟩),
     .inr (.inl ⟨rfl, step_ex _ rfl (.inl rfl) rfl (fun a ww hw hf hd => by
   have h29 : a.eval (.tmp 29) = Value.pointer (some ⟨p, 3, none⟩) := ((knows_in 3 29 (by decide) (by kernel_rfl) rfl rfl) : Knows _ _ _ _ _ _ 4 _ _) a ww hw hf hd
   have f0 : ww.cell? ⟨p, 3, none⟩ = some (Value.slice A W.length c) := (hT1.next hw).blk.cell (i := 3) rfl
   revert h29
   generalize a.eval = ev
   intro h29
   unfold execOp
   simp only [h29]
   go_simp)⟩),
     .inr (.inl ⟨rfl, step_ldV rfl (.inl rfl) (fun _ hw => (hB1.next hw).range) rfl Try.underlying68 rfl (szV infWr (wc_len HX.out)) rfl (knows_out 8 (by kernel_rfl) rfl)⟩),
     .inr (.inl ⟨rfl, step_bsl (.inl rfl) rfl Try.underlying56 infWr (by decide) (by decide) (vs := (wc (N, xs))) (filled_wr N HX.out) rfl (parts1 (knows_in 5 31 (by decide) (by kernel_rfl) rfl rfl))⟩),
     .inl rfl, trivial⟩ _ rfl rfl ?_ ?_
  · intro a ww hw hf hd
    have h30 : a.eval (.tmp 30) = Value.slice A W.length c := hd 4 30 (by decide) (by kernel_rfl) rfl
    obtain ⟨b, hb1, hb0, hb2⟩ := hd 6 32 (by decide) (by kernel_rfl) rfl
    exact evt_app rfl rfl Try.underlying56 infWrb (by simp [wc, ints_length, Z64, Value.cells]) (by decide) (by decide) (hT1.next hw).rW h30 ⟨b, hb1, hb2⟩ (wc_len HX.out) (wc_one _) (by omega)
  intro val W2 W3 hw hS hR
  have e26 : val 26 = Value.pointer (some ⟨p, 0, none⟩) := hS 0 26 (by decide) (by decide) rfl
  have e27 : val 27 = Value.pointer (some ⟨p, 0, none⟩) := hS 1 27 (by decide) (by decide) rfl
  have e28 : val 28 = Value.pointer (some ⟨p, 0, none⟩) := hS 2 28 (by decide) (by decide) rfl
  have e29 : val 29 = Value.pointer (some ⟨p, 3, none⟩) := hS 3 29 (by decide) (by decide) rfl
  have e30 : val 30 = Value.slice A W.length c := hS 4 30 (by decide) (by decide) rfl
  have e31 : val 31 = Value.agg (wc (N, xs)).toArray := hS 5 31 (by decide) (by decide) rfl
  have hR := hR 33 rfl
  obtain ⟨A33, c33, e33, hl33, hm33, hr33, hg33, ho33⟩ := hR
  rw [e33] at hr33 ho33
  simp only [putVals, List.foldl_cons, List.foldl_nil, List.drop_succ_cons, List.drop_zero, Act.put, List.setIfInBounds_toArray, List.set_cons_succ, List.set_cons_zero, e26, e27, e28, e29, e30, e31, e33]
  generalize val 32 = g32
  clear e26 e27 e28 e29 e30 e31 e33 hS
  have hT2 := hT1.next hw
  have hX2 := hB1.next hw
  obtain ⟨hT4, hC4, hf4, hp3⟩ := hT2.pend (x := (N, xs)) ⟨HNn.out, HX.out⟩ hg33 hr33 ho33
  have x3 := hp3.free 3
  have c3 := hp3.cell (i := 3) rfl
  obtain ⟨W4, hW4⟩ : ∃ W4, W3.setCell ⟨p, 3, none⟩ (.slice A33 (W.length + 1) c33) = W4 := ⟨_, rfl⟩
  have hX3 : Rw W4 w.heap.size 1 (ints .u8 xs) := by
    have h1 : Rw W4 w.heap.size 0 (wc (N, xs)) := by
      refine hX2.same ?_
      rw [← hW4]
      refine hC4.block _ (Nat.lt_of_lt_of_le hz1 hw.size) (fun e => ?_)
      have := HT.out.lt _ e
      omega
    exact Rw.right (us := ints .u8 xs) (vs := [.int .i64 (N : Int)]) h1 rfl
  rw [hW4] at hT4 hC4 hf4
  have hC5 := (hC1.next hw).trans hC4 (fun b _ hb => hb)
  have hz2 : w.heap.size ≤ W2.heap.size := Nat.le_trans hb1.size hw.size
  have HW4 := hid hW4
  have HF4 := hid hf4
  clear hT1 hC1 hT2 hX2 hB1 hp3 hg33 hr33 ho33 hW4 hw hb1 hz1 hC4 HT hf4
  go_upto_region 10 with (fail)
  rw [HW4.out]
  clear HW4 x3 c3
  refine region_spec2 8 46 (fun _ => false) [Is (Value.pointer (some ⟨p, 0, none⟩)), Is (Value.pointer (some ⟨p, 0, none⟩)), Is (Value.pointer (some ⟨p, 2, none⟩)), Is (Value.slice (some ⟨bq, 0, none⟩) n cq), Is (Value.int .i64 (N : Nat)), Is (Value.pointer (some ⟨w.heap.size, 1, none⟩)), Is (Value.agg (ints .u8 xs).toArray), Is (Value.pointer (some ⟨bq, N * 64, none⟩))] [36, 37, 38, 39, 40, 41, 42, 43] (by kernel_rfl) (by kernel_rfl) (by kernel_rfl) (Nat.le_of_eq rfl) (grows_cons (Is.grows _) (grows_cons (Is.grows _) (grows_cons (Is.grows _) (grows_cons (Is.grows _) (grows_cons (Is.grows _) (grows_cons (Is.grows _) (grows_cons (Is.grows _) (grows_cons (Is.grows _) grows_nil))))))))
    ⟨(step_ex _ rfl (.inl rfl) rfl (fun a ww hw hf hd => by
   have h0 : a.eval (.tmp 0) = Value.pointer (some ⟨p, 0, none⟩) := ((knows_out 0 (by kernel_rfl) rfl) : Knows _ _ _ _ _ _ 0 _ _) a ww hw hf hd
   revert h0
   generalize a.eval = ev
   intro h0
   unfold execOp
   simp only [h0]
   go_simp)),
     (step_ex _ rfl (.inl rfl) rfl (fun a ww hw hf hd => by
   have h36 : a.eval (.tmp 36) = Value.pointer (some ⟨p, 0, none⟩) := ((knows_in 0 36 (by decide) (by kernel_rfl) rfl rfl) : Knows _ _ _ _ _ _ 1 _ _) a ww hw hf hd
   revert h36
   generalize a.eval = ev
   intro h36
   unfold execOp
   simp only [h36]
   go_simp)),
     (step_ex _ rfl (.inl rfl) rfl (fun a ww hw hf hd => by
   have h37 : a.eval (.tmp 37) = Value.pointer (some ⟨p, 0, none⟩) := ((knows_in 1 37 (by decide) (by kernel_rfl) rfl rfl) : Knows _ _ _ _ _ _ 2 _ _) a ww hw hf hd
   revert h37
   generalize a.eval = ev
   intro h37
   unfold execOp
   simp only [h37]
   go_simp)),
     (step_ex _ rfl (.inl rfl) rfl (fun a ww hw hf hd => by
   have h38 : a.eval (.tmp 38) = Value.pointer (some ⟨p, 2, none⟩) := ((knows_in 2 38 (by decide) (by kernel_rfl) rfl rfl) : Knows _ _ _ _ _ _ 3 _ _) a ww hw hf hd
   have f0 : ww.cell? ⟨p, 2, none⟩ = some (Value.slice (some ⟨bq, 0, none⟩) n cq) := (hT4.next hw).blk.cell (i := 2) rfl
   revert h38
   generalize a.eval = ev
   intro h38
   unfold execOp
   simp only [h38]
   go_simp)),
     (step_ex _ rfl (.inl rfl) rfl (fun a ww hw hf hd => by
   have h1 : a.eval (.tmp 1) = Value.int .i64 (N : Nat) := ((knows_out 1 (by kernel_rfl) rfl) : Knows _ _ _ _ _ _ 4 _ _) a ww hw hf hd
   revert h1
   generalize a.eval = ev
   intro h1
   unfold execOp
   simp only [h1]
   go_simp)),
     (step_ex _ rfl (.inl rfl) rfl (fun a ww hw hf hd => by
   have h8 : a.eval (.tmp 8) = Value.pointer (some ⟨w.heap.size, 0, none⟩) := ((knows_out 8 (by kernel_rfl) rfl) : Knows _ _ _ _ _ _ 5 _ _) a ww hw hf hd
   revert h8
   generalize a.eval = ev
   intro h8
   unfold execOp
   simp only [h8]
   go_simp)),
     (step_ldV rfl (.inl rfl) (fun _ hw => (hX3.next hw).range) rfl Try.underlying66 rfl (szV infSecV (il HX.out)) rfl (knows_in 5 41 (by decide) (by kernel_rfl) rfl rfl)),
     (step_ex _ rfl (.inl rfl) rfl (fun a ww hw hf hd => by
   have h39 : a.eval (.tmp 39) = Value.slice (some ⟨bq, 0, none⟩) n cq := ((knows_in 3 39 (by decide) (by kernel_rfl) rfl rfl) : Knows _ _ _ _ _ _ 7 _ _) a ww hw hf hd
   have h40 : a.eval (.tmp 40) = Value.int .i64 (N : Nat) := ((knows_in 4 40 (by decide) (by kernel_rfl) rfl rfl) : Knows _ _ _ _ _ _ 7 _ _) a ww hw hf hd
   have f0 := hN0
   have f1 := hN1
   revert h39 h40
   generalize a.eval = ev
   intro h39 h40
   unfold execOp
   simp only [h39, h40]
   go_simp)), trivial⟩ ?_
  intro val W5 hw hS _ _
  have e36 : val 36 = Value.pointer (some ⟨p, 0, none⟩) := hS 0 36 (by decide) rfl
  have e37 : val 37 = Value.pointer (some ⟨p, 0, none⟩) := hS 1 37 (by decide) rfl
  have e38 : val 38 = Value.pointer (some ⟨p, 2, none⟩) := hS 2 38 (by decide) rfl
  have e39 : val 39 = Value.slice (some ⟨bq, 0, none⟩) n cq := hS 3 39 (by decide) rfl
  have e40 : val 40 = Value.int .i64 (N : Nat) := hS 4 40 (by decide) rfl
  have e41 : val 41 = Value.pointer (some ⟨w.heap.size, 1, none⟩) := hS 5 41 (by decide) rfl
  have e42 : val 42 = Value.agg (ints .u8 xs).toArray := hS 6 42 (by decide) rfl
  have e43 : val 43 = Value.pointer (some ⟨bq, N * 64, none⟩) := hS 7 43 (by decide) rfl
  simp only [putVals, List.foldl_cons, List.foldl_nil, List.drop_succ_cons, List.drop_zero, Act.put, List.setIfInBounds_toArray, List.set_cons_succ, List.set_cons_zero, e36, e37, e38, e39, e40, e41, e42, e43]
  clear e36 e37 e38 e39 e40 e41 e42 e43 hS
  have hT5 := hT4.next hw
  have hC6 := hC5.next hw
  have R5 : W5.there bq (N * 64) (ints .u8 xs).toArray.size := (hT5.rQ.sec hT5.sQ (List.getElem?_eq_getElem (by rw [hT5.nQ]; exact HNn.out))).roomA (by rw [ints_length, ints_length, HX.out, hT5.sQ _ (List.getElem_mem (by rw [hT5.nQ]; exact HNn.out))])
  have hT6 := hT5.show (hT5.rQ.putSec hT5.sQ (by rw [hT5.nQ]; exact HNn.out) HX.out) (by simp [hT5.nQ]) (hT5.sQ.set HX.out N)
  have hC7 := hC6.setCells (b := bq) (.inl (.inr (.inr (.inl rfl)))) (N * 64) (ints .u8 xs).toArray.toList
  obtain ⟨W6, hW6⟩ : ∃ W6, W5.setCells bq (N * 64) (ints .u8 xs).toArray.toList = W6 := ⟨_, rfl⟩
  have hz6 : W4.heap.size ≤ W6.heap.size := by rw [← hW6, cellsSize]; exact hw.size
  have Hall2 := ints_all .u8 xs
  have Hs64 := szA infSecV (il (k := .u8) HX.out)
  rw [hW6] at hT6 hC7
  have HW6 := hid hW6
  clear hT4 hT5 hC5 hC6 hw hW6
  go_wp2_with (first
    | (with_reducible refine wpList_store_mid (op := ⟨none, .store 66 (.tmp 43) (.tmp 42), _, _, _, _⟩) rfl 66 (.tmp 43) (.tmp 42) rfl bq (N * 64) (ints .u8 xs).toArray rfl rfl R5 Hs64 Hall2 ?_; rw [HW6.out]; clear R5)
    | (go_at_call 34; refine (dburn_any hT6 hf.out h0.out h9.out).mono ?_; rintro e w7 ⟨rfl, ⟨f', hT7, hf7⟩, hC8⟩))
  go_ret
  refine ⟨rfl, ⟨A33, c33, f', hT7, hf7, fun b hb => ?_⟩, hC7.trans hC8 (fun b _ hb => .inl hb)⟩
  rcases HF4.out b hb with h1 | h1
  · exact .inl h1
  · have := hC8.size
    exact .inr ⟨by omega, by omega⟩
theorem DS.foot {F : Nat → Prop} {w : World} {p bk bq : Nat} {A A' : Option Addr} {w' : World} (h1 : ∀ b, footD p bk bq A b → F b) (h2 : ∀ b, footD p bk bq A' b → footD p bk bq A b ∨ (w.heap.size ≤ b ∧ b < w'.heap.size)) : ∀ b, footD p bk bq A' b → Grw F w w' b := fun b hb => by
  rcases h2 b hb with h | h
  · exact .inl (h1 b h)
  · exact .inr h
theorem Grw.refl {F : Nat → Prop} {w w' : World} {p : Nat} {D : DK} (h : DS F w p D) (hw : w = w') : DS (Grw F w w') w' p D ∧ Chg F w w' := by
  subst hw
  exact ⟨h.sub (fun b _ hb => .inl hb), Chg.refl F w⟩
set_option maxHeartbeats 2000000 in
theorem dwrite_any (F : Nat → Prop) (p m : Nat) (D : DK) (n : Int) (B : Option Addr) (cB : Nat) (xs : List Int) (w : World) (h : DS F w p D) (hD : Dok m D) (hm : m ≤ 900) (hB : Nums w .u8 B xs) :
    Calls Try.prog 14 #[.pointer (some ⟨p, 0, none⟩), .int .i64 n, .slice B xs.length cB] w fun e w' => e = .returned (.int .i64 (writeR D n xs).1) ∧ DS (Grw F w w') w' p (writeR D n xs).2 ∧ Chg F w w' := by
  obtain ⟨A0, c1, A2, c2', f0, c0, c2, c3, c4, c5, c6⟩ := h.cells
  by_cases hoff : D.off = true
  · have e : writeR D n xs = (30, D) := by unfold writeR; rw [if_pos hoff]
    rw [e]
    rw [hoff] at c5
    have hg := hid (fun w' => Grw.refl (w' := w') h)
    clear h hD c2 c3 c4 c6 e hoff
    go_enter Try.func14, Try.ntmps14
    go_wp2_with (go_at_call 32; refine (dstate_any p true _ c0 c5).mono ?_; rintro e w2 ⟨rfl, rfl⟩)
    go_ret
    exact ⟨rfl, hg.out _ rfl⟩
  · have hoff' : D.off = false := by simpa using hoff
    rw [hoff'] at c5
    by_cases hr : n < 0 ∨ (D.K.length : Int) ≤ n
    · have e : writeR D n xs = (31, D) := by unfold writeR; rw [if_neg hoff, if_pos hr]
      rw [e]
      have hg := hid (fun w' => Grw.refl (w' := w') h)
      have Hhas : Hid (false = !decide (n < 0 ∨ (D.K.length : Int) ≤ n)) := hid (by rw [decide_eq_true hr]; rfl)
      clear h hD c3 c4 c6 e hoff hoff' hr
      go_enter Try.func14, Try.ntmps14
      go_wp2_with (first
        | (go_at_call 32; refine (dstate_any p false _ c0 c5).mono ?_; rintro e w2 ⟨rfl, rfl⟩; clear c5)
        | (go_at_call 33; refine (dhas_any p D.K.length c1 _ n false _ c2 Hhas).mono ?_; rintro e w2 ⟨rfl, rfl⟩; clear c2))
      go_ret
      exact ⟨rfl, hg.out _ rfl⟩
    · by_cases hl : xs.length = 64
      · obtain ⟨N, rfl⟩ : ∃ N : Nat, n = (N : Int) := ⟨n.toNat, by omega⟩
        have e : writeR D N xs = (errB D, burnD { D with W := D.W ++ [(N, xs)] }) := by
          unfold writeR
          rw [if_neg hoff, if_neg hr, if_neg (by omega)]
          rfl
        rw [e, hl]
        obtain ⟨bk, bq, ck, cq, A, c, f, hT, hf, h1⟩ := h
        obtain ⟨K, W, fu, off, li⟩ := D
        dsimp only at hT hf hoff' hr hD
        subst hoff'
        refine (dwrite_core p bk bq K.length ck cq A c K (pres K W) W f fu li N B cB xs w hT (hid (hf rfl)) (hid hD.f0) (hid hD.f1) (by omega) (Nat.le_trans hD.w1 hm) (hid hl) hB).mono ?_
        rintro e w' ⟨he, ⟨A', c', f', hT', hf', hF'⟩, hC⟩
        refine ⟨he, ⟨bk, bq, ck, cq, A', c', f', ?_, hf', DS.foot h1 hF'⟩, hC.sub (fun b _ hb => h1 b hb)⟩
        rw [burnD_K, burnD_W, burnD_li]
        show DT w' p bk bq K.length ck cq A' c' K (pres K (W ++ [(N, xs)])) (W ++ [(N, xs)]) f' _ li
        rw [pres_app]
        exact hT'
      · have e : writeR D n xs = (2, D) := by unfold writeR; rw [if_neg hoff, if_neg hr, if_pos hl]
        rw [e]
        have hg := hid (fun w' => Grw.refl (w' := w') h)
        have Hhas : Hid (true = !decide (n < 0 ∨ (D.K.length : Int) ≤ n)) := hid (by rw [decide_eq_false hr]; rfl)
        have hl2 : ((xs.length : Int) != 64) = true := bne_iff_ne.2 (by omega)
        obtain ⟨l, hll⟩ : ∃ l, xs.length = l := ⟨_, rfl⟩
        rw [hll] at hl2 ⊢
        have hl3 : ¬ l = 64 := by omega
        clear h hD c3 c4 c6 e hoff hoff' hr hl hB hll
        go_enter Try.func14, Try.ntmps14
        go_wp2_with (first
          | (go_at_call 32; refine (dstate_any p false _ c0 c5).mono ?_; rintro e w2 ⟨rfl, rfl⟩; clear c5)
          | (go_at_call 33; refine (dhas_any p D.K.length c1 _ n true _ c2 Hhas).mono ?_; rintro e w2 ⟨rfl, rfl⟩; clear c2))
        go_ret
        exact ⟨rfl, hg.out _ rfl⟩
end Go.Proofs.Ytdfalneiapeegaa
