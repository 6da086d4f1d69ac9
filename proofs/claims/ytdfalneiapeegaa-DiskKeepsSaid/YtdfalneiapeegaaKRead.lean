/- A read. -/
import Derived.Test.YtdfalneiapeegaaKWrite
namespace Go.Proofs.Ytdfalneiapeegaa
open Go Go.RowKit Go.Maps

theorem box_sec (s : List Int) (hs : s.length = 64) (w : World) : ∃ W, (w.alloc (.cells (ints .u8 Z64).toArray 66)).setCells w.heap.size 0 (ints .u8 s).toArray.toList = W ∧ Rw W w.heap.size 0 (ints .u8 s) ∧ Below w.heap.size w W ∧ w.heap.size < W.heap.size ∧ (w.alloc (.cells (ints .u8 Z64).toArray 66)).there w.heap.size 0 (ints .u8 s).toArray.size := by
  have h1 := Rw.new w (ints .u8 Z64) 66
  have hl : (ints .u8 s).length = (ints .u8 Z64).length := by rw [ints_length, ints_length, hs, Z64_len]
  refine ⟨_, rfl, h1.stored hl, Below.setCells (below_new w _) (Nat.le_refl _) 0 _, ?_, h1.roomA hl⟩
  rw [cellsSize]; simp
theorem Rw.fresh {w : World} {lo b : Nat} {s : List Int} (h : Rw w b 0 (ints .u8 s)) (hl : lo ≤ b) (hb : b < w.heap.size) : NumsF lo w .u8 (some ⟨b, 0, none⟩) s := fun hp => by
  refine ⟨b, 0, rfl, hl, hb, fun i hi => ?_⟩
  exact (h i _ (by simp [ints, hi])).1
set_option maxHeartbeats 2000000 in
theorem dread_core (p bq n cq N : Nat) (s : List Int) (w : World) (c0 : w.cell? ⟨p, 0, none⟩ = some (.bool true)) (c2 : w.cell? ⟨p, 2, none⟩ = some (.slice (some ⟨bq, 0, none⟩) n cq)) (c5 : w.cell? ⟨p, 5, none⟩ = some (.bool false)) (hN : N < n) (hR : w.rangeAt bq (N * 64) (ints .u8 s)) (HS : Hid (s.length = 64)) :
    Calls Try.prog 17 #[.pointer (some ⟨p, 0, none⟩), .int .i64 N] w fun e w' => e = .returned (.tuple #[.slice (some ⟨w.heap.size, 0, none⟩) 64 64, .int .i64 0]) ∧ NumsF w.heap.size w' .u8 (some ⟨w.heap.size, 0, none⟩) s ∧ Below w.heap.size w w' := by
  have Hhas : Hid (true = !decide ((N : Int) < 0 ∨ (n : Int) ≤ N)) := hid (by rw [decide_eq_false (by omega)]; rfl)
  have hN0 : (0 : Int) ≤ N := by omega
  have hN1 : (N : Int) < n := by omega
  obtain ⟨z64, s64⟩ := zero_of_info infSecV
  obtain ⟨W1, hW1, hB1, hb1, hz1, hth1⟩ := box_sec s HS.out w
  have Hs64 := szA infSecV (il (k := .u8) HS.out)
  have Hall := ints_all .u8 s
  have HW1 := hid hW1
  have HF := hid (hB1.fresh (Nat.le_refl _) hz1)
  clear hW1 hN hB1 hz1
  go_enter Try.func17, Try.ntmps17
  go_wp2_with (first
    | (go_at_call 32; refine (dstate_any p false _ c0 c5).mono ?_; rintro e w2 ⟨rfl, rfl⟩; clear c5)
    | (go_at_call 33; refine (dhas_any p n cq _ N true _ c2 Hhas).mono ?_; rintro e w2 ⟨rfl, rfl⟩)
    | (with_reducible refine wpList_load_mid (op := ⟨some 23, .load 66 (.tmp 22), _, _, _, _⟩) rfl 66 (.tmp 22) rfl bq (N * 64) rfl (ints .u8 s) _ hR Try.underlying66 rfl (szV infSecV (il HS.out)) ?_; clear hR)
    | (with_reducible refine wpList_store_mid (op := ⟨none, .store 66 (.tmp 7) (.tmp 23), _, _, _, _⟩) rfl 66 (.tmp 7) (.tmp 23) rfl w.heap.size 0 (ints .u8 s).toArray rfl rfl hth1 Hs64 Hall ?_; rw [HW1.out]; clear hth1))
  go_ret2
  exact ⟨rfl, HF.out, hb1⟩
set_option maxHeartbeats 2000000 in
theorem dread_any (F : Nat → Prop) (p m : Nat) (D : DK) (n : Int) (w : World) (h : DS F w p D) (hD : Dok m D) :
    Calls Try.prog 17 #[.pointer (some ⟨p, 0, none⟩), .int .i64 n] w fun e w' => ∃ B c, e = .returned (.tuple #[.slice B (readR D n).2.length c, .int .i64 (readR D n).1]) ∧ NumsF w.heap.size w' .u8 B (readR D n).2 ∧ Below w.heap.size w w' := by
  obtain ⟨A0, c1, A2, c2', f0, c0, c2, c3, c4, c5, c6⟩ := h.cells
  by_cases hoff : D.off = true
  · have e : readR D n = (30, []) := by unfold readR; rw [if_pos hoff]
    rw [e]
    rw [hoff] at c5
    clear h hD c2 c3 c4 c6 e hoff
    go_enter Try.func17, Try.ntmps17
    go_wp2_with (go_at_call 32; refine (dstate_any p true _ c0 c5).mono ?_; rintro e w2 ⟨rfl, rfl⟩)
    go_ret2
    exact ⟨none, 0, rfl, NumsF.nil, Below.refl _ _⟩
  · have hoff' : D.off = false := by simpa using hoff
    rw [hoff'] at c5
    by_cases hr : n < 0 ∨ (D.K.length : Int) ≤ n
    · have e : readR D n = (31, []) := by unfold readR; rw [if_neg hoff, if_pos hr]
      rw [e]
      have Hhas : Hid (false = !decide (n < 0 ∨ (D.K.length : Int) ≤ n)) := hid (by rw [decide_eq_true hr]; rfl)
      clear h hD c3 c4 c6 e hoff hoff' hr
      go_enter Try.func17, Try.ntmps17
      go_wp2_with (first
        | (go_at_call 32; refine (dstate_any p false _ c0 c5).mono ?_; rintro e w2 ⟨rfl, rfl⟩; clear c5)
        | (go_at_call 33; refine (dhas_any p D.K.length c1 _ n false _ c2 Hhas).mono ?_; rintro e w2 ⟨rfl, rfl⟩; clear c2))
      go_ret2
      exact ⟨none, 0, rfl, NumsF.nil, Below.refl _ _⟩
    · obtain ⟨N, rfl⟩ : ∃ N : Nat, n = (N : Int) := ⟨n.toNat, by omega⟩
      obtain ⟨bk, bq, ck, cq, A, c, f, hT, hf, h1⟩ := h
      have hNl : N < (pres D.K D.W).length := by rw [pres_length]; omega
      obtain ⟨s, hs⟩ : ∃ s, (pres D.K D.W)[N]? = some s := ⟨_, List.getElem?_eq_getElem hNl⟩
      have hs64 := hT.sQ.get hs
      have e : readR D N = (0, s) := by
        unfold readR
        rw [if_neg hoff, if_neg hr]
        show (0, (pres D.K D.W).getD N []) = _
        rw [getD_of hs]
      rw [e]
      dsimp only
      rw [hs64]
      exact (dread_core p bq D.K.length cq N s w c0 (hT.blk.cell (i := 2) rfl) c5 (by omega) (hT.rQ.sec hT.sQ hs).range (hid hs64)).mono fun e w' ⟨he, h2, h3⟩ => ⟨_, _, he, h2, h3⟩
end Go.Proofs.Ytdfalneiapeegaa
