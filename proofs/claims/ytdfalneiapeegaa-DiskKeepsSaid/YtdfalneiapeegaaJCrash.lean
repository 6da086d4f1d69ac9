/- A crash, by the document. -/
import Derived.Test.YtdfalneiapeegaaJFlush
namespace Go.Proofs.Ytdfalneiapeegaa
open Go Go.RowKit Go.Maps

theorem Blk.setI {w : World} {b : Nat} {T : TypeId} {k : IntKind} {l : List Int} (h : Blk w b T (ints k l)) (j : Nat) (x : Int) : Blk (w.setCell ⟨b, j, none⟩ (.int k x)) b T (ints k (l.set j x)) := by
  have := h.set j (.int k x)
  unfold ints at this ⊢
  rw [List.map_set]
  exact this
theorem make64 (w : World) : (Instr.makeSlice 32 (.int .i64 64) (.int .i64 64)).run Try.prog w = .ok (.slice (some ⟨w.heap.size, 0, none⟩) 64 64) (w.alloc (.cells (ints .u8 Z64).toArray 5)) := by
  have hi := infU8b
  cases hc : Try.prog.info? 5 with
  | none => rw [hc] at hi; simp at hi
  | some i =>
    rw [hc] at hi
    simp only [Option.map_some, Option.some.injEq, Prod.mk.injEq] at hi
    have h2 := run_make (P := Try.prog) w 32 5 i (.int .u8 0) (by kernel_rfl) hc hi.1 .i64 .i64 64 64 (by omega) (by omega) (by rw [hi.2.2]; omega) (by omega)
    rw [h2, hi.2.1]
    congr 3
    apply Array.toList_inj.1
    show (madeCells #[.int .u8 0] 64).toList = _
    rw [toList_madeCells_one]
    simp [Z64, ints]
theorem fill0 {S : List Int} (h : S.length = 64) : fillK S 0 = Z64 := by rw [fillK_zero, h]; rfl
theorem fill64 {S : List Int} (h : S.length = 64) : fillK S 64 = S := by rw [← h]; exact fillK_end S
theorem getD_at {l : List Int} {j : Nat} (h : j < l.length) : l[j]? = some (l.getD j 0) := by simp [List.getD, h]
theorem fill_cell {S : List Int} (h : S.length = 64) {j : Nat} (hj : j < 64) : (ints .u8 (fillK S j))[j]? = some (.int .u8 0) := by
  have : (fillK S j)[j]? = some 0 := by rw [fillK_get, if_pos (by omega), if_neg (Nat.lt_irrefl j)]
  simp [ints, this]
theorem set_set {l : List Int} {j : Nat} {x y : Int} : (l.set j x).set j y = l.set j y := by simp
set_option maxRecDepth 50000 in
set_option maxHeartbeats 8000000 in
theorem rcrash_core (B : Nat → Prop) (q n : Nat) (AK : Option Addr) (cK : Nat) (AW : Option Addr) (cW : Nat) (ps ws : List Value) (K : List (List Int)) (W : List (Nat × List Int)) (f li : Int) (off : Bool) (C : Option Addr) (cC cl : Nat) (cs : List Int) (w : World)
    (hT : RT B w q n AK cK AW cW ps ws K W f off li) (hWl : W.length ≤ 900) (hl0 : 0 ≤ li) (hl1 : li ≤ 900) (hcs : Hid (cs.length = cl)) (hcl : cl ≤ 9223372036854775807) (HB : Hid (Byts cs)) (HN : Hid (NumsS (fun b => ¬ footR q AK AW b ∧ b < w.heap.size) w .u8 C cs)) :
    Calls Try.prog 30 #[.pointer (some ⟨q, 0, none⟩), .slice C cl cC] w fun e w' => e = .returned (.tuple #[]) ∧ (∃ ps' B', RT B' w' q n AK cK none 0 ps' [] (tornN K W cs W.length) [] (-1) false (li + 1) ∧ ∀ b, B' b → Grw B w w' b) ∧ Chg (footR q AK AW) w w' := by
  have hli : IntKind.i64.wrap (li + 1) = li + 1 := IntWalk.i64_in _ ⟨by omega, by omega⟩
  obtain ⟨l, hl⟩ : ∃ l, W.length = l := ⟨_, rfl⟩
  have HL := hid hl
  rw [hl] at hWl ⊢
  have HT0 := hid hT
  have hlt0 := hid hT.lt
  have hcl2 : (cl : Int) ≤ 9223372036854775807 := by omega
  have hmk := make64
  clear hl hT hl0 hl1 hcl
  go_enter Try.func30, Try.ntmps30
  go_wp2
  go_loopw [4] (fun v wr => ∃ k : Nat, k ≤ l ∧ v = .int .i64 k ∧ Hid (∃ ps' B', RT B' wr q n AK cK AW cW ps' ws (tornN K W cs k) W f off li ∧ ∀ b, B' b → Grw B w wr b) ∧ Hid (Chg (footR q AK AW) w wr)) (fun v _ => l - (intOf v).toNat)
  case atStart => exact ⟨0, Nat.zero_le _, rfl, hid ⟨ps, B, HT0.out, fun _ h => .inl h⟩, hid (Chg.refl _ w)⟩
  case round =>
    clear HT0
    obtain ⟨k, hk, rfl, HT, HC⟩ := hrel
    obtain ⟨ps', B1, hT, hB1⟩ := HT.out
    have c1 := hT.blk.cell (i := 1) rfl
    rw [HL.out] at c1
    by_cases hlt : k < l
    · obtain ⟨x, hx⟩ : ∃ x, W[k]? = some x := ⟨_, List.getElem?_eq_getElem (by rw [HL.out]; exact hlt)⟩
      obtain ⟨xn, xd⟩ := x
      have HX : Hid (xn < n ∧ xd.length = 64) := hid (hT.wW.get hx)
      obtain ⟨gW, Ad, cd, rfl, hc1, hc2, hNd⟩ := hT.wait hx
      obtain ⟨s, hs⟩ : ∃ s, (tornN K W cs k)[xn]? = some s := ⟨_, List.getElem?_eq_getElem (by rw [hT.nK]; exact HX.out.1)⟩
      obtain ⟨gK, As, cs2, rfl, hcs2, _, hNs⟩ := hT.kept hs
      have hs64 := hT.sK.get hs
      dsimp only at hc1 hNd
      have Hx := hid hx
      have Hs := hid hs
      have Hs64 := hid hs64
      have hkl : (k : Int) < l := by omega
      have hk0 : (0 : Int) ≤ k := by omega
      have hN0 : (0 : Int) ≤ xn := by omega
      have hN1 : (xn : Int) < n := by have := HX.out.1; omega
      have HK := hid hlt
      have HB1 := hid hB1
      clear HT hx hk hlt hs hs64 hB1
      go_upto_region 3 with (fail)
      clear c1
      refine region_spec2 14 100 (fun _ => false) [Is (Value.pointer (some ⟨q, 0, none⟩)), Is (Value.pointer (some ⟨q, 0, none⟩)), Is (Value.pointer (some ⟨q, 0, none⟩)), Is (Value.slice (some ⟨gK, 0, none⟩) n cK), Is (Value.pointer (some ⟨q, 0, none⟩)), Is (Value.pointer (some ⟨q, 0, none⟩)), Is (Value.pointer (some ⟨q, 1, none⟩)), Is (Value.slice (some ⟨gW, 0, none⟩) l cW), Is (Value.int .i64 (k : Nat)), Is (Value.pointer (some ⟨gW, k * 2, none⟩)), Is (Value.pointer (some ⟨gW, k * 2, none⟩)), Is (Value.int .i64 (xn : Nat)), Is (Value.pointer (some ⟨gK, xn, none⟩)), Is (Value.slice As 64 cs2)] [17, 18, 19, 20, 21, 22, 23, 24, 25, 26, 27, 28, 29, 30] (by kernel_rfl) (by kernel_rfl) (by kernel_rfl) (Nat.le_of_eq rfl) (grows_cons (Is.grows _) (grows_cons (Is.grows _) (grows_cons (Is.grows _) (grows_cons (Is.grows _) (grows_cons (Is.grows _) (grows_cons (Is.grows _) (grows_cons (Is.grows _) (grows_cons (Is.grows _) (grows_cons (Is.grows _) (grows_cons (Is.grows _) (grows_cons (Is.grows _) (grows_cons (Is.grows _) (grows_cons (Is.grows _) (grows_cons (Is.grows _) grows_nil))))))))))))))
        ⟨(step_ex _ rfl (.inl rfl) rfl (fun a ww hw hf hd => by
       have h0 : a.eval (.tmp 0) = Value.pointer (some ⟨q, 0, none⟩) := ((knows_out 0 (by kernel_rfl) rfl) : Knows _ _ _ _ _ _ 0 _ _) a ww hw hf hd
       revert h0
       generalize a.eval = ev
       intro h0
       unfold execOp
       simp only [h0]
       go_simp)),
         (step_ex _ rfl (.inl rfl) rfl (fun a ww hw hf hd => by
       have h17 : a.eval (.tmp 17) = Value.pointer (some ⟨q, 0, none⟩) := ((knows_in 0 17 (by decide) (by kernel_rfl) rfl rfl) : Knows _ _ _ _ _ _ 1 _ _) a ww hw hf hd
       revert h17
       generalize a.eval = ev
       intro h17
       unfold execOp
       simp only [h17]
       go_simp)),
         (step_ex _ rfl (.inl rfl) rfl (fun a ww hw hf hd => by
       have h18 : a.eval (.tmp 18) = Value.pointer (some ⟨q, 0, none⟩) := ((knows_in 1 18 (by decide) (by kernel_rfl) rfl rfl) : Knows _ _ _ _ _ _ 2 _ _) a ww hw hf hd
       revert h18
       generalize a.eval = ev
       intro h18
       unfold execOp
       simp only [h18]
       go_simp)),
         (step_ex _ rfl (.inl rfl) rfl (fun a ww hw hf hd => by
       have h19 : a.eval (.tmp 19) = Value.pointer (some ⟨q, 0, none⟩) := ((knows_in 2 19 (by decide) (by kernel_rfl) rfl rfl) : Knows _ _ _ _ _ _ 3 _ _) a ww hw hf hd
       have f0 : ww.cell? ⟨q, 0, none⟩ = some (Value.slice (some ⟨gK, 0, none⟩) n cK) := (hT.next hw).blk.cell (i := 0) rfl
       revert h19
       generalize a.eval = ev
       intro h19
       unfold execOp
       simp only [h19]
       go_simp)),
         (step_ex _ rfl (.inl rfl) rfl (fun a ww hw hf hd => by
       have h0 : a.eval (.tmp 0) = Value.pointer (some ⟨q, 0, none⟩) := ((knows_out 0 (by kernel_rfl) rfl) : Knows _ _ _ _ _ _ 4 _ _) a ww hw hf hd
       revert h0
       generalize a.eval = ev
       intro h0
       unfold execOp
       simp only [h0]
       go_simp)),
         (step_ex _ rfl (.inl rfl) rfl (fun a ww hw hf hd => by
       have h21 : a.eval (.tmp 21) = Value.pointer (some ⟨q, 0, none⟩) := ((knows_in 4 21 (by decide) (by kernel_rfl) rfl rfl) : Knows _ _ _ _ _ _ 5 _ _) a ww hw hf hd
       revert h21
       generalize a.eval = ev
       intro h21
       unfold execOp
       simp only [h21]
       go_simp)),
         (step_ex _ rfl (.inl rfl) rfl (fun a ww hw hf hd => by
       have h22 : a.eval (.tmp 22) = Value.pointer (some ⟨q, 0, none⟩) := ((knows_in 5 22 (by decide) (by kernel_rfl) rfl rfl) : Knows _ _ _ _ _ _ 6 _ _) a ww hw hf hd
       revert h22
       generalize a.eval = ev
       intro h22
       unfold execOp
       simp only [h22]
       go_simp)),
         (step_ex _ rfl (.inl rfl) rfl (fun a ww hw hf hd => by
       have h23 : a.eval (.tmp 23) = Value.pointer (some ⟨q, 1, none⟩) := ((knows_in 6 23 (by decide) (by kernel_rfl) rfl rfl) : Knows _ _ _ _ _ _ 7 _ _) a ww hw hf hd
       have f0 : ww.cell? ⟨q, 1, none⟩ = some (Value.slice (some ⟨gW, 0, none⟩) l cW) := by have h := (hT.next hw).blk.cell (i := 1) rfl; rwa [HL.out] at h
       revert h23
       generalize a.eval = ev
       intro h23
       unfold execOp
       simp only [h23]
       go_simp)),
         (step_ex _ rfl (.inl rfl) rfl (fun a ww hw hf hd => by
       have h4 : a.eval (.tmp 4) = Value.int .i64 (k : Nat) := ((knows_out 4 (by kernel_rfl) rfl) : Knows _ _ _ _ _ _ 8 _ _) a ww hw hf hd
       revert h4
       generalize a.eval = ev
       intro h4
       unfold execOp
       simp only [h4]
       go_simp)),
         (step_ex _ rfl (.inl rfl) rfl (fun a ww hw hf hd => by
       have h24 : a.eval (.tmp 24) = Value.slice (some ⟨gW, 0, none⟩) l cW := ((knows_in 7 24 (by decide) (by kernel_rfl) rfl rfl) : Knows _ _ _ _ _ _ 9 _ _) a ww hw hf hd
       have h25 : a.eval (.tmp 25) = Value.int .i64 (k : Nat) := ((knows_in 8 25 (by decide) (by kernel_rfl) rfl rfl) : Knows _ _ _ _ _ _ 9 _ _) a ww hw hf hd
       have f0 := hk0
       have f1 := hkl
       revert h24 h25
       generalize a.eval = ev
       intro h24 h25
       unfold execOp
       simp only [h24, h25]
       go_simp)),
         (step_ex _ rfl (.inl rfl) rfl (fun a ww hw hf hd => by
       have h26 : a.eval (.tmp 26) = Value.pointer (some ⟨gW, k * 2, none⟩) := ((knows_in 9 26 (by decide) (by kernel_rfl) rfl rfl) : Knows _ _ _ _ _ _ 10 _ _) a ww hw hf hd
       revert h26
       generalize a.eval = ev
       intro h26
       unfold execOp
       simp only [h26]
       go_simp)),
         (step_ex _ rfl (.inl rfl) rfl (fun a ww hw hf hd => by
       have h27 : a.eval (.tmp 27) = Value.pointer (some ⟨gW, k * 2, none⟩) := ((knows_in 10 27 (by decide) (by kernel_rfl) rfl rfl) : Knows _ _ _ _ _ _ 11 _ _) a ww hw hf hd
       have f0 : ww.cell? ⟨gW, k * 2, none⟩ = some (Value.int .i64 (xn : Nat)) := cellB hc1 hw
       revert h27
       generalize a.eval = ev
       intro h27
       unfold execOp
       simp only [h27]
       go_simp)),
         (step_ex _ rfl (.inl rfl) rfl (fun a ww hw hf hd => by
       have h20 : a.eval (.tmp 20) = Value.slice (some ⟨gK, 0, none⟩) n cK := ((knows_in 3 20 (by decide) (by kernel_rfl) rfl rfl) : Knows _ _ _ _ _ _ 12 _ _) a ww hw hf hd
       have h28 : a.eval (.tmp 28) = Value.int .i64 (xn : Nat) := ((knows_in 11 28 (by decide) (by kernel_rfl) rfl rfl) : Knows _ _ _ _ _ _ 12 _ _) a ww hw hf hd
       have f0 := hN0
       have f1 := hN1
       revert h20 h28
       generalize a.eval = ev
       intro h20 h28
       unfold execOp
       simp only [h20, h28]
       go_simp)),
         (step_ex _ rfl (.inl rfl) rfl (fun a ww hw hf hd => by
       have h29 : a.eval (.tmp 29) = Value.pointer (some ⟨gK, xn, none⟩) := ((knows_in 12 29 (by decide) (by kernel_rfl) rfl rfl) : Knows _ _ _ _ _ _ 13 _ _) a ww hw hf hd
       have f0 : ww.cell? ⟨gK, xn, none⟩ = some (Value.slice As 64 cs2) := cellB hcs2 hw
       revert h29
       generalize a.eval = ev
       intro h29
       unfold execOp
       simp only [h29]
       go_simp)), trivial⟩ ?_
      intro val W3 hw hS _ _
      have e17 : val 17 = Value.pointer (some ⟨q, 0, none⟩) := hS 0 17 (by decide) rfl
      have e18 : val 18 = Value.pointer (some ⟨q, 0, none⟩) := hS 1 18 (by decide) rfl
      have e19 : val 19 = Value.pointer (some ⟨q, 0, none⟩) := hS 2 19 (by decide) rfl
      have e20 : val 20 = Value.slice (some ⟨gK, 0, none⟩) n cK := hS 3 20 (by decide) rfl
      have e21 : val 21 = Value.pointer (some ⟨q, 0, none⟩) := hS 4 21 (by decide) rfl
      have e22 : val 22 = Value.pointer (some ⟨q, 0, none⟩) := hS 5 22 (by decide) rfl
      have e23 : val 23 = Value.pointer (some ⟨q, 1, none⟩) := hS 6 23 (by decide) rfl
      have e24 : val 24 = Value.slice (some ⟨gW, 0, none⟩) l cW := hS 7 24 (by decide) rfl
      have e25 : val 25 = Value.int .i64 (k : Nat) := hS 8 25 (by decide) rfl
      have e26 : val 26 = Value.pointer (some ⟨gW, k * 2, none⟩) := hS 9 26 (by decide) rfl
      have e27 : val 27 = Value.pointer (some ⟨gW, k * 2, none⟩) := hS 10 27 (by decide) rfl
      have e28 : val 28 = Value.int .i64 (xn : Nat) := hS 11 28 (by decide) rfl
      have e29 : val 29 = Value.pointer (some ⟨gK, xn, none⟩) := hS 12 29 (by decide) rfl
      have e30 : val 30 = Value.slice As 64 cs2 := hS 13 30 (by decide) rfl
      simp only [putVals, List.foldl_cons, List.foldl_nil, List.drop_succ_cons, List.drop_zero, Act.put, List.setIfInBounds_toArray, List.set_cons_succ, List.set_cons_zero, e17, e18, e19, e20, e21, e22, e23, e24, e25, e26, e27, e28, e29, e30]
      clear e17 e18 e19 e20 e21 e22 e23 e24 e25 e26 e27 e28 e29 e30 hS
      have hT3 := hT.next hw
      have hC3 := HC.out.next hw
      have d1 := cellB hc1 hw
      have d2 := cellB hc2 hw
      have hNd3 := hNd.keep (w' := W3) (fun b hb => hw.block b (hT.dis b hb).2)
      have hNs3 := hNs.keep (w' := W3) (fun b hb => hw.block b (hT.dis b hb).2)
      have hb4 := below_new W3 (.cells (ints .u8 Z64).toArray 5)
      have hq4 := Blk.new W3 5 (ints .u8 Z64)
      obtain ⟨w4, hw4⟩ : ∃ w4, W3.alloc (.cells (ints .u8 Z64).toArray 5) = w4 := ⟨_, rfl⟩
      obtain ⟨b6, hb6⟩ : ∃ b6, W3.heap.size = b6 := ⟨_, rfl⟩
      have hz4 : w4.heap.size = b6 + 1 := by rw [← hw4, ← hb6]; simp
      rw [hw4] at hb4 hq4
      have hT4 := hT3.next hb4
      have hC4 := hC3.next hb4
      have f1 := cellB d1 hb4
      have f2 := cellB d2 hb4
      have hNd4 := hNd3.keep (w' := w4) (fun b hb => hb4.block b (hT3.dis b hb).2)
      have hNs4 := hNs3.keep (w' := w4) (fun b hb => hb4.block b (hT3.dis b hb).2)
      rw [hb6] at hq4
      have hwb : w.heap.size ≤ b6 := by rw [← hb6]; exact hC3.size
      have hft : ∀ b, footR q (some ⟨gK, 0, none⟩) (some ⟨gW, 0, none⟩) b → b ≠ b6 := fun b hb e => by
        have := hT3.lt b hb
        omega
      have hB6 : ∀ b, B1 b → b ≠ b6 := fun b hb e => by
        have := (hT3.dis b hb).2
        omega
      have hch := HN.out.keep (w' := w4) (fun b hb => hC4.block b hb.2 hb.1)
      have HW4 := hid hw4
      have Hb6 := hid hb6
      obtain ⟨bd, od, rfl, hBd, hcd⟩ := hNd4 (by rw [HX.out.2]; decide)
      obtain ⟨bs, os, rfl, hBs, hcs3⟩ := hNs4 (by rw [Hs64.out]; decide)
      have HFA : Hid (∀ W' : World, Chg (fun b => b = b6) w4 W' → RT B1 W' q n (some ⟨gK, 0, none⟩) cK (some ⟨gW, 0, none⟩) cW ps' ws (tornN K W cs k) W f off li ∧ W'.cell? ⟨gW, k * 2, none⟩ = some (.int .i64 (xn : Nat)) ∧ W'.cell? ⟨gW, k * 2 + 1, none⟩ = some (.slice (some ⟨bd, od, none⟩) 64 cd) ∧ (∀ j, j < 64 → W'.cell? ⟨bd, od + j, none⟩ = some (.int .u8 (xd.getD j 0))) ∧ (∀ j, j < 64 → W'.cell? ⟨bs, os + j, none⟩ = some (.int .u8 (s.getD j 0))) ∧ NumsS (fun b => ¬ footR q (some ⟨gK, 0, none⟩) (some ⟨gW, 0, none⟩) b ∧ b < w.heap.size) W' .u8 C cs) := hid (fun W' hc => by
        have hsame : ∀ b, b < w4.heap.size → b ≠ b6 → W'.heap[b]? = w4.heap[b]? := fun b h1 h2 => hc.block b h1 h2
        have hgW : W'.heap[gW]? = w4.heap[gW]? := hsame gW (World.block_lt_of_cell? w4 _ f1) (hft gW (.inr (.inr rfl)))
        refine ⟨hT4.chg hc hft hB6, by rw [cell_same hgW]; exact f1, by rw [cell_same hgW]; exact f2, fun j hj => ?_, fun j hj => ?_, hch.keep (fun b hb => hsame b (by have := hb.2; omega) (by have := hb.2; omega))⟩
        · rw [cell_same (hsame bd (by have := (hT4.dis bd hBd).2; omega) (hB6 bd hBd))]
          exact hcd j (by rw [HX.out.2]; exact hj)
        · rw [cell_same (hsame bs (by have := (hT4.dis bs hBs).2; omega) (hB6 bs hBs))]
          exact hcs3 j (by rw [Hs64.out]; exact hj))
      obtain ⟨S, hS⟩ : ∃ S, tearS xd s (ch cs k) = S := ⟨_, rfl⟩
      have hS64 : S.length = 64 := by rw [← hS]; exact tearS_length HX.out.2 Hs64.out (ch_le _ _)
      have HS := hid hS
      have HS64 := hid hS64
      have Hq4 : Hid (Blk w4 b6 5 (ints .u8 (fillK S 0))) := hid (by rw [fill0 hS64]; exact hq4)
      have HC4 := hid hC4
      have Hwb := hid hwb
      have Hz4 := hid hz4
      have Hft := hid hft
      have HB6 := hid hB6
      clear hT hT3 hC3 d1 d2 hNd3 hNs3 hb4 hq4 hw4 hb6 hT4 hC4 f1 f2 hNd4 hNs4 hwb hch hcd hcs3 hBd hBs hS hS64 hw hc1 hc2 hNd hNs hcs2 hz4 hft hB6 HC
      go_upto_region 6 with (fail)
      rw [HW4.out, Hb6.out]
      clear HW4 Hb6
      go_loopw [7] (fun v wr => ∃ j : Nat, j ≤ 64 ∧ v = .int .i64 j ∧ Hid (Blk wr b6 5 (ints .u8 (fillK S j))) ∧ Hid (Chg (fun b => b = b6) w4 wr)) (fun v _ => 64 - (intOf v).toNat)
      case atStart => exact ⟨0, by decide, rfl, Hq4, hid (Chg.refl _ w4)⟩
      case round =>
        clear Hq4
        obtain ⟨j, hj, rfl, HQ, HD⟩ := hrel
        by_cases hjl : j < 64
        · obtain ⟨hT6, _, _, _, e4, _⟩ := HFA.out wr HD.out
          obtain ⟨sj, hsj⟩ : ∃ sj, s.getD j 0 = sj := ⟨_, rfl⟩
          have cS := e4 j hjl
          rw [hsj] at cS
          have c6 := HQ.out.cell (fill_cell HS64.out hjl)
          have x6 := HQ.out.free j
          have hQ1 := HQ.out.setI j sj
          have hD1 := HD.out.setCell (p := ⟨b6, j, none⟩) (.inl rfl) (.int .u8 sj)
          obtain ⟨w1, hw1⟩ : ∃ w1, wr.setCell ⟨b6, j, none⟩ (.int .u8 sj) = w1 := ⟨_, rfl⟩
          rw [hw1] at hQ1 hD1
          obtain ⟨hT7, _, e2, e3, _, e5⟩ := HFA.out w1 hD1
          have d1 := hT7.blk.cell (i := 1) rfl
          rw [HL.out] at d1
          have Hw1 := hid hw1
          have hj0 : (0 : Int) ≤ j := by omega
          have hj64 : (j : Int) < 64 := by omega
          have hSs : s[j]? = some sj := by rw [← hsj]; exact getD_at (by rw [Hs64.out]; exact hjl)
          have HJ := hid hjl
          clear hj hw1 hsj e4 hT6 HQ HD
          by_cases hkc : k < cl
          · obtain ⟨bc, oc, cb, rfl, hS, hcell, hcb0⟩ := e5.at_ (k := k) (by rw [hcs.out]; exact hkc)
            obtain ⟨hb0, hb1⟩ := HB.out cb (List.mem_of_getElem? hcb0)
            have hwr : IntKind.i64.wrap cb = cb := IntWalk.i64_in _ ⟨by omega, by omega⟩
            have hkc' : (k : Int) < cl := by omega
            have hch : ch cs k = (min cb 64).toNat := ch_at hcb0 hb0
            by_cases hjc : (j : Int) < cb
            · obtain ⟨dj, hdj⟩ : ∃ dj, xd.getD j 0 = dj := ⟨_, rfl⟩
              have cD := e3 j hjl
              rw [hdj] at cD
              have hxd : xd[j]? = some dj := by rw [← hdj]; exact getD_at (by rw [HX.out.2]; exact hjl)
              have hSj : S[j]? = some dj := by
                rw [← HS.out, tearS_get _ _ _ _ HX.out.2 (ch_le _ _), if_pos (by rw [hch]; omega)]
                exact hxd
              have y6 : w1.cell? ⟨b6, j, none⟩ = some (.int .u8 sj) := hQ1.cell (by simp [ints, fillK_length, HS64.out, hjl])
              have z6 := hQ1.free j
              have HQ2 : Hid (Blk (w1.setCell ⟨b6, j, none⟩ (.int .u8 dj)) b6 5 (ints .u8 (fillK S (j + 1)))) := hid (by
                have h := hQ1.setI j dj
                rw [set_set, fillK_set S hSj] at h
                exact h)
              have HD2 := hid (hD1.setCell (p := ⟨b6, j, none⟩) (.inl rfl) (.int .u8 dj))
              clear e5 e3 hS hcb0 hb0 hb1 hkc hch hdj hxd hSj hSs hQ1 hD1 hT7 hjl
              go_upto_region 9 with (fail)
              rw [Hw1.out]
              clear Hw1 c6 x6 cS
              go_wp2
              go_roundw
              case rel => exact ⟨j + 1, by have := HJ.out; omega, by go_num, HQ2, HD2⟩
              case measure => have := HJ.out; simp [intOf]; omega
            · have hSj : S[j]? = some sj := by
                rw [← HS.out, tearS_get _ _ _ _ HX.out.2 (ch_le _ _), if_neg (by rw [hch]; omega)]
                exact hSs
              have HQ2 : Hid (Blk w1 b6 5 (ints .u8 (fillK S (j + 1)))) := hid (by
                have h := hQ1
                rw [fillK_set S hSj] at h
                exact h)
              have HD2 := hid hD1
              clear e5 e3 e2 hS hcb0 hb0 hb1 hkc hch hSj hSs hQ1 hD1 hT7 hjl
              go_upto_region 9 with (fail)
              rw [Hw1.out]
              clear Hw1 c6 x6 cS
              go_wp2
              go_roundw
              case rel => exact ⟨j + 1, by have := HJ.out; omega, by go_num, HQ2, HD2⟩
              case measure => have := HJ.out; simp [intOf]; omega
          · have hkc' : ¬ (k : Int) < cl := by omega
            have hSj : S[j]? = some sj := by
              rw [← HS.out, tearS_get _ _ _ _ HX.out.2 (ch_le _ _), if_neg (by rw [ch_out (by rw [hcs.out]; exact hkc)]; omega)]
              exact hSs
            have HQ2 : Hid (Blk w1 b6 5 (ints .u8 (fillK S (j + 1)))) := hid (by
              have h := hQ1
              rw [fillK_set S hSj] at h
              exact h)
            have HD2 := hid hD1
            clear e5 e3 e2 hkc hSj hSs hQ1 hD1 hT7 hjl
            go_upto_region 9 with (fail)
            rw [Hw1.out]
            clear Hw1 c6 x6 cS
            go_wp2
            go_roundw
            case rel => exact ⟨j + 1, by have := HJ.out; omega, by go_num, HQ2, HD2⟩
            case measure => have := HJ.out; simp [intOf]; omega
        · obtain rfl : j = 64 := by omega
          have hQ8 : Blk wr b6 5 (ints .u8 S) := by have h := HQ.out; rwa [fill64 HS64.out] at h
          obtain ⟨hT8, hd1, _, _, _, _⟩ := HFA.out wr HD.out
          have hC8 : Chg (footR q (some ⟨gK, 0, none⟩) (some ⟨gW, 0, none⟩)) w wr := HC4.out.trans HD.out (fun b hb e => by have := Hwb.out; omega)
          have hz8 := HD.out.size
          have HQ8 := hid hQ8
          have HC8 := hid hC8
          have Hz8 := hid hz8
          clear HQ HD hj hjl hQ8 hC8 hz8
          generalize wr = w8 at *
          go_upto_region 11 with (fail)
          refine region_spec2 14 100 (fun _ => false) [Is (Value.pointer (some ⟨q, 0, none⟩)), Is (Value.pointer (some ⟨q, 0, none⟩)), Is (Value.pointer (some ⟨q, 0, none⟩)), Is (Value.slice (some ⟨gK, 0, none⟩) n cK), Is (Value.pointer (some ⟨q, 0, none⟩)), Is (Value.pointer (some ⟨q, 0, none⟩)), Is (Value.pointer (some ⟨q, 1, none⟩)), Is (Value.slice (some ⟨gW, 0, none⟩) l cW), Is (Value.int .i64 (k : Nat)), Is (Value.pointer (some ⟨gW, k * 2, none⟩)), Is (Value.pointer (some ⟨gW, k * 2, none⟩)), Is (Value.int .i64 (xn : Nat)), Is (Value.slice (some ⟨b6, 0, none⟩) 64 64), Is (Value.pointer (some ⟨gK, xn, none⟩))] [70, 71, 72, 73, 74, 75, 76, 77, 78, 79, 80, 81, 82, 83] (by kernel_rfl) (by kernel_rfl) (by kernel_rfl) (Nat.le_of_eq rfl) (grows_cons (Is.grows _) (grows_cons (Is.grows _) (grows_cons (Is.grows _) (grows_cons (Is.grows _) (grows_cons (Is.grows _) (grows_cons (Is.grows _) (grows_cons (Is.grows _) (grows_cons (Is.grows _) (grows_cons (Is.grows _) (grows_cons (Is.grows _) (grows_cons (Is.grows _) (grows_cons (Is.grows _) (grows_cons (Is.grows _) (grows_cons (Is.grows _) grows_nil))))))))))))))
            ⟨(step_ex _ rfl (.inl rfl) rfl (fun a ww hw hf hd => by
           have h0 : a.eval (.tmp 0) = Value.pointer (some ⟨q, 0, none⟩) := ((knows_out 0 (by kernel_rfl) rfl) : Knows _ _ _ _ _ _ 0 _ _) a ww hw hf hd
           revert h0
           generalize a.eval = ev
           intro h0
           unfold execOp
           simp only [h0]
           go_simp)),
             (step_ex _ rfl (.inl rfl) rfl (fun a ww hw hf hd => by
           have h70 : a.eval (.tmp 70) = Value.pointer (some ⟨q, 0, none⟩) := ((knows_in 0 70 (by decide) (by kernel_rfl) rfl rfl) : Knows _ _ _ _ _ _ 1 _ _) a ww hw hf hd
           revert h70
           generalize a.eval = ev
           intro h70
           unfold execOp
           simp only [h70]
           go_simp)),
             (step_ex _ rfl (.inl rfl) rfl (fun a ww hw hf hd => by
           have h71 : a.eval (.tmp 71) = Value.pointer (some ⟨q, 0, none⟩) := ((knows_in 1 71 (by decide) (by kernel_rfl) rfl rfl) : Knows _ _ _ _ _ _ 2 _ _) a ww hw hf hd
           revert h71
           generalize a.eval = ev
           intro h71
           unfold execOp
           simp only [h71]
           go_simp)),
             (step_ex _ rfl (.inl rfl) rfl (fun a ww hw hf hd => by
           have h72 : a.eval (.tmp 72) = Value.pointer (some ⟨q, 0, none⟩) := ((knows_in 2 72 (by decide) (by kernel_rfl) rfl rfl) : Knows _ _ _ _ _ _ 3 _ _) a ww hw hf hd
           have f0 : ww.cell? ⟨q, 0, none⟩ = some (Value.slice (some ⟨gK, 0, none⟩) n cK) := (hT8.next hw).blk.cell (i := 0) rfl
           revert h72
           generalize a.eval = ev
           intro h72
           unfold execOp
           simp only [h72]
           go_simp)),
             (step_ex _ rfl (.inl rfl) rfl (fun a ww hw hf hd => by
           have h0 : a.eval (.tmp 0) = Value.pointer (some ⟨q, 0, none⟩) := ((knows_out 0 (by kernel_rfl) rfl) : Knows _ _ _ _ _ _ 4 _ _) a ww hw hf hd
           revert h0
           generalize a.eval = ev
           intro h0
           unfold execOp
           simp only [h0]
           go_simp)),
             (step_ex _ rfl (.inl rfl) rfl (fun a ww hw hf hd => by
           have h74 : a.eval (.tmp 74) = Value.pointer (some ⟨q, 0, none⟩) := ((knows_in 4 74 (by decide) (by kernel_rfl) rfl rfl) : Knows _ _ _ _ _ _ 5 _ _) a ww hw hf hd
           revert h74
           generalize a.eval = ev
           intro h74
           unfold execOp
           simp only [h74]
           go_simp)),
             (step_ex _ rfl (.inl rfl) rfl (fun a ww hw hf hd => by
           have h75 : a.eval (.tmp 75) = Value.pointer (some ⟨q, 0, none⟩) := ((knows_in 5 75 (by decide) (by kernel_rfl) rfl rfl) : Knows _ _ _ _ _ _ 6 _ _) a ww hw hf hd
           revert h75
           generalize a.eval = ev
           intro h75
           unfold execOp
           simp only [h75]
           go_simp)),
             (step_ex _ rfl (.inl rfl) rfl (fun a ww hw hf hd => by
           have h76 : a.eval (.tmp 76) = Value.pointer (some ⟨q, 1, none⟩) := ((knows_in 6 76 (by decide) (by kernel_rfl) rfl rfl) : Knows _ _ _ _ _ _ 7 _ _) a ww hw hf hd
           have f0 : ww.cell? ⟨q, 1, none⟩ = some (Value.slice (some ⟨gW, 0, none⟩) l cW) := by have h := (hT8.next hw).blk.cell (i := 1) rfl; rwa [HL.out] at h
           revert h76
           generalize a.eval = ev
           intro h76
           unfold execOp
           simp only [h76]
           go_simp)),
             (step_ex _ rfl (.inl rfl) rfl (fun a ww hw hf hd => by
           have h4 : a.eval (.tmp 4) = Value.int .i64 (k : Nat) := ((knows_out 4 (by kernel_rfl) rfl) : Knows _ _ _ _ _ _ 8 _ _) a ww hw hf hd
           revert h4
           generalize a.eval = ev
           intro h4
           unfold execOp
           simp only [h4]
           go_simp)),
             (step_ex _ rfl (.inl rfl) rfl (fun a ww hw hf hd => by
           have h77 : a.eval (.tmp 77) = Value.slice (some ⟨gW, 0, none⟩) l cW := ((knows_in 7 77 (by decide) (by kernel_rfl) rfl rfl) : Knows _ _ _ _ _ _ 9 _ _) a ww hw hf hd
           have h78 : a.eval (.tmp 78) = Value.int .i64 (k : Nat) := ((knows_in 8 78 (by decide) (by kernel_rfl) rfl rfl) : Knows _ _ _ _ _ _ 9 _ _) a ww hw hf hd
           have f0 := hk0
           have f1 := hkl
           revert h77 h78
           generalize a.eval = ev
           intro h77 h78
           unfold execOp
           simp only [h77, h78]
           go_simp)),
             (step_ex _ rfl (.inl rfl) rfl (fun a ww hw hf hd => by
           have h79 : a.eval (.tmp 79) = Value.pointer (some ⟨gW, k * 2, none⟩) := ((knows_in 9 79 (by decide) (by kernel_rfl) rfl rfl) : Knows _ _ _ _ _ _ 10 _ _) a ww hw hf hd
           revert h79
           generalize a.eval = ev
           intro h79
           unfold execOp
           simp only [h79]
           go_simp)),
             (step_ex _ rfl (.inl rfl) rfl (fun a ww hw hf hd => by
           have h80 : a.eval (.tmp 80) = Value.pointer (some ⟨gW, k * 2, none⟩) := ((knows_in 10 80 (by decide) (by kernel_rfl) rfl rfl) : Knows _ _ _ _ _ _ 11 _ _) a ww hw hf hd
           have f0 : ww.cell? ⟨gW, k * 2, none⟩ = some (Value.int .i64 (xn : Nat)) := cellB hd1 hw
           revert h80
           generalize a.eval = ev
           intro h80
           unfold execOp
           simp only [h80]
           go_simp)),
             (step_ex _ rfl (.inl rfl) rfl (fun a ww hw hf hd => by
           have h6 : a.eval (.tmp 6) = Value.slice (some ⟨b6, 0, none⟩) 64 64 := ((knows_out 6 (by kernel_rfl) rfl) : Knows _ _ _ _ _ _ 12 _ _) a ww hw hf hd
           revert h6
           generalize a.eval = ev
           intro h6
           unfold execOp
           simp only [h6]
           go_simp)),
             (step_ex _ rfl (.inl rfl) rfl (fun a ww hw hf hd => by
           have h73 : a.eval (.tmp 73) = Value.slice (some ⟨gK, 0, none⟩) n cK := ((knows_in 3 73 (by decide) (by kernel_rfl) rfl rfl) : Knows _ _ _ _ _ _ 13 _ _) a ww hw hf hd
           have h81 : a.eval (.tmp 81) = Value.int .i64 (xn : Nat) := ((knows_in 11 81 (by decide) (by kernel_rfl) rfl rfl) : Knows _ _ _ _ _ _ 13 _ _) a ww hw hf hd
           have f0 := hN0
           have f1 := hN1
           revert h73 h81
           generalize a.eval = ev
           intro h73 h81
           unfold execOp
           simp only [h73, h81]
           go_simp)), trivial⟩ ?_
          intro val W9 hw hS _ _
          have e70 : val 70 = Value.pointer (some ⟨q, 0, none⟩) := hS 0 70 (by decide) rfl
          have e71 : val 71 = Value.pointer (some ⟨q, 0, none⟩) := hS 1 71 (by decide) rfl
          have e72 : val 72 = Value.pointer (some ⟨q, 0, none⟩) := hS 2 72 (by decide) rfl
          have e73 : val 73 = Value.slice (some ⟨gK, 0, none⟩) n cK := hS 3 73 (by decide) rfl
          have e74 : val 74 = Value.pointer (some ⟨q, 0, none⟩) := hS 4 74 (by decide) rfl
          have e75 : val 75 = Value.pointer (some ⟨q, 0, none⟩) := hS 5 75 (by decide) rfl
          have e76 : val 76 = Value.pointer (some ⟨q, 1, none⟩) := hS 6 76 (by decide) rfl
          have e77 : val 77 = Value.slice (some ⟨gW, 0, none⟩) l cW := hS 7 77 (by decide) rfl
          have e78 : val 78 = Value.int .i64 (k : Nat) := hS 8 78 (by decide) rfl
          have e79 : val 79 = Value.pointer (some ⟨gW, k * 2, none⟩) := hS 9 79 (by decide) rfl
          have e80 : val 80 = Value.pointer (some ⟨gW, k * 2, none⟩) := hS 10 80 (by decide) rfl
          have e81 : val 81 = Value.int .i64 (xn : Nat) := hS 11 81 (by decide) rfl
          have e82 : val 82 = Value.slice (some ⟨b6, 0, none⟩) 64 64 := hS 12 82 (by decide) rfl
          have e83 : val 83 = Value.pointer (some ⟨gK, xn, none⟩) := hS 13 83 (by decide) rfl
          simp only [putVals, List.foldl_cons, List.foldl_nil, List.drop_succ_cons, List.drop_zero, Act.put, List.setIfInBounds_toArray, List.set_cons_succ, List.set_cons_zero, e70, e71, e72, e73, e74, e75, e76, e77, e78, e79, e80, e81, e82, e83]
          clear e70 e71 e72 e73 e74 e75 e76 e77 e78 e79 e80 e81 e82 e83 hS
          have hT9 := hT8.next hw
          have hQ9 := HQ8.out.next hw
          have hnum : NumsS (fun b => B1 b ∨ b = b6) W9 .u8 (some ⟨b6, 0, none⟩) S := fun hp => ⟨b6, 0, rfl, .inr rfl, fun i hi => by rw [Nat.zero_add]; exact hQ9.cell (by simp [ints, hi])⟩
          have hT9' : RT (fun b => B1 b ∨ b = b6) W9 q n (some ⟨gK, 0, none⟩) cK (some ⟨gW, 0, none⟩) cW ps' ws (tornN K W cs k) W f off li := hT9.more (fun b hb => .inl hb) (fun b hb => by
            rcases hb with h | rfl
            · exact hT9.dis b h
            · exact ⟨fun e => Hft.out _ e rfl, hQ9.lt⟩)
          obtain ⟨gK', A', c', e', hcK, hfK, hNK⟩ := hT9'.kept (j := xn) (List.getElem?_eq_getElem (by rw [hT9'.nK]; exact HX.out.1))
          injection e' with e'
          injection e' with e'
          subst e'
          have hT10 := hT9'.put (A := some ⟨b6, 0, none⟩) (c := 64) HX.out.1 hnum HS64.out
          have hC10 := (HC8.out.next hw).setCell (p := ⟨gK, xn, none⟩) (.inl (.inr (.inl rfl))) (.slice (some ⟨b6, 0, none⟩) 64 64)
          have e10 := tornN_succ (K := K) (c := cs) Hx.out
          dsimp only at e10
          rw [getD_of Hs.out, HS.out] at e10
          rw [← e10] at hT10
          have HT10 : Hid (∃ ps' B', RT B' (W9.setCell ⟨gK, xn, none⟩ (.slice (some ⟨b6, 0, none⟩) 64 64)) q n (some ⟨gK, 0, none⟩) cK (some ⟨gW, 0, none⟩) cW ps' ws (tornN K W cs (k + 1)) W f off li ∧ ∀ b, B' b → Grw B w (W9.setCell ⟨gK, xn, none⟩ (.slice (some ⟨b6, 0, none⟩) 64 64)) b) := hid ⟨_, _, hT10, fun b hb => by
            have hz := hw.size
            have h8 := Hz8.out
            have h4 := Hz4.out
            have hwb := Hwb.out
            rcases hb with h | rfl
            · rcases HB1.out b h with h1 | h1
              · exact .inl h1
              · exact .inr ⟨h1.1, (hT10.dis b (.inl h)).2⟩
            · exact .inr ⟨hwb, (hT10.dis b (.inr rfl)).2⟩⟩
          have HC10 := hid hC10
          clear hT8 hd1 hT9 hQ9 hnum hT9' hNK hT10 hC10 e10 hw
          go_wp2
          go_roundw
          case rel => exact ⟨k + 1, HK.out, by go_num, HT10, HC10⟩
          case measure => have := HK.out; simp [intOf]; omega
    · have e : l = k := by omega
      subst e
      have hge : ¬ (l : Int) < l := by omega
      have hC := HC.out
      have x1 := hT.blk.free 1
      have hT4 := hT.drop
      have hC4 := hC.setCell (p := ⟨q, 1, none⟩) (.inl (.inl rfl)) (.slice none 0 0)
      obtain ⟨W4, hW4⟩ : ∃ W4, wr.setCell ⟨q, 1, none⟩ (.slice none 0 0) = W4 := ⟨_, rfl⟩
      rw [hW4] at hT4 hC4
      have HW4 := hid hW4
      have d2 := hT4.blk.cell (i := 2) rfl
      have x2 := hT4.blk.free 2
      have hT5 := hT4.cell 2 (.int .i64 (-1)) (f' := -1) (off' := off) (li' := li) rfl
      have hC5 := hC4.setCell (p := ⟨q, 2, none⟩) (.inl (.inl rfl)) (.int .i64 (-1))
      obtain ⟨W5, hW5⟩ : ∃ W5, W4.setCell ⟨q, 2, none⟩ (.int .i64 (-1)) = W5 := ⟨_, rfl⟩
      rw [hW5] at hT5 hC5
      have HW5 := hid hW5
      have d3 := hT5.blk.cell (i := 3) rfl
      have x3 := hT5.blk.free 3
      have hT6 := hT5.cell 3 (.bool false) (f' := -1) (off' := false) (li' := li) rfl
      have hC6 := hC5.setCell (p := ⟨q, 3, none⟩) (.inl (.inl rfl)) (.bool false)
      obtain ⟨W6, hW6⟩ : ∃ W6, W5.setCell ⟨q, 3, none⟩ (.bool false) = W6 := ⟨_, rfl⟩
      rw [hW6] at hT6 hC6
      have HW6 := hid hW6
      have d4 := hT6.blk.cell (i := 4) rfl
      have x4 := hT6.blk.free 4
      have hT7 := hT6.cell 4 (.int .i64 (li + 1)) (f' := -1) (off' := false) (li' := li + 1) rfl
      have hC7 := hC6.setCell (p := ⟨q, 4, none⟩) (.inl (.inl rfl)) (.int .i64 (li + 1))
      have hs4 : W4.heap.size = wr.heap.size := by rw [← hW4]; exact setCell_size _ _ _
      have hs5 : W5.heap.size = W4.heap.size := by rw [← hW5]; exact setCell_size _ _ _
      have hs6 : W6.heap.size = W5.heap.size := by rw [← hW6]; exact setCell_size _ _ _
      have hs7 := setCell_size W6 ⟨q, 4, none⟩ (.int .i64 (li + 1))
      have HB7 : Hid (∀ b, B1 b → Grw B w (W6.setCell ⟨q, 4, none⟩ (.int .i64 (li + 1))) b) := hid (fun b hb => by
        rcases hB1 b hb with h | h
        · exact .inl h
        · exact .inr ⟨h.1, by omega⟩)
      have HT7 := hid hT7
      have HC7 := hid hC7
      clear hT hC HT HC hlt hk hT4 hC4 hW4 hT5 hC5 hW5 hT6 hC6 hW6 hT7 hC7 hs4 hs5 hs6 hs7 hB1
      go_upto_region 13 with (fail)
      rw [HW4.out]
      clear c1 x1 HW4
      go_upto_region 14 with (fail)
      rw [HW5.out]
      clear d2 x2 HW5
      go_upto_region 15 with (fail)
      rw [HW6.out]
      clear d3 x3 HW6
      go_wp2
      first | (refine bodyPost_end (results_none rfl _ _ _) rfl ?_) | (refine bodyPost_ret (results_none rfl _ _ _) rfl ?_)
      exact ⟨rfl, ⟨ps', B1, HT7.out, HB7.out⟩, HC7.out⟩
theorem rcrash_any (F B : Nat → Prop) (q m : Nat) (D : DK) (C : Option Addr) (cC : Nat) (cs : List Int) (w : World) (h : RS F B w q D) (hD : Dok m D) (hm : m ≤ 900) (hcl : cs.length ≤ 9223372036854775807) (hb : Byts cs) (hN : NumsS (fun b => ¬ F b ∧ b < w.heap.size) w .u8 C cs) :
    Calls Try.prog 30 #[.pointer (some ⟨q, 0, none⟩), .slice C cs.length cC] w fun e w' => e = .returned (.tuple #[]) ∧ RSn F B w w' q (crashD D cs) ∧ Chg F w w' := by
  obtain ⟨AK, cK, AW, cW, ps, ws, f, hT, hf, h1, h2⟩ := h
  have hl1 := hD.l1
  refine (rcrash_core B q D.K.length AK cK AW cW ps ws D.K D.W f D.li D.off C cC cs.length cs w hT (Nat.le_trans hD.w1 hm) hD.l0 (by omega) (hid rfl) hcl (hid hb) (hid (hN.sub fun b ⟨h2, h3⟩ => ⟨fun e => h2 (h1 b e), h3⟩))).mono ?_
  rintro e w' ⟨he, ⟨ps', B', hT', hB'⟩, hC⟩
  refine ⟨he, RSn.mk' (AK := AK) (cK := cK) (AW := none) (cW := 0) (ps := ps') (ws := []) (f := -1) (B' := B') ?_ (fun _ => rfl) (fun b hb => .inl (h1 b ?_)) hB', hC.sub (fun b _ hb => h1 b hb)⟩
  · show RT B' w' q (tornN D.K D.W cs D.W.length).length AK cK none 0 ps' [] (tornN D.K D.W cs D.W.length) [] (-1) false (D.li + 1)
    rw [tornN_length]
    exact hT'
  · rcases hb with h | h | h
    · exact .inl h
    · exact .inr (.inl h)
    · simp [Value.ownBlock] at h
end Go.Proofs.Ytdfalneiapeegaa
