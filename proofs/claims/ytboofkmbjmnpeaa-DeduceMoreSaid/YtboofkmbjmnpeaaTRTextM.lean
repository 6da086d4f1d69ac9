/- Text on the reference's store. -/
import Derived.Test.YtboofkmbjmnpeaaG8
namespace Go.Proofs.Ytboofkmbjmnpeaa
open Go Go.RowKit Go.Maps

set_option maxRecDepth 50000 in
theorem row_cell {w : World} {base e n c : Nat} {A : Option Addr} {xs : List Value} (h : w.ownsRow base e 1 (.slice A n c) n xs) {j : Nat} {v : Value} (hj : xs[j]? = some v) : ∃ g, A = some ⟨g, 0, none⟩ ∧ w.cell? ⟨g, j, none⟩ = some v := by
  have hl := h.1
  have hjl := get_lt hj
  rcases h.2 with ⟨hv, hn⟩ | ⟨g, cap, cur, hv, hb, hg, hn, hm, hs, ht⟩
  · omega
  · injection hv with h1 h2 h3
    refine ⟨g, h1, ?_⟩
    have e : cur[j]? = some v := by
      rw [← ht, List.getElem?_take, if_pos (by omega)] at hj
      simpa using hj
    simp [World.cell?, hg, e]
set_option maxRecDepth 50000 in
/-- The texts' row after an append of one slice, stored back. -/
theorem rt_text {B : Nat} {W W' : World} {q : Nat} {AL AX A Ab : Option Addr} {cL cX c cb : Nat} {ps : List Value} {L : List T3} {X : List (List Int)} {x : List Int} (hT : RT B W q AL cL AX cX ps L X) (hB : ∀ b, footR q AL AX b → B ≤ b) (hBW : B ≤ W.heap.size) (hx : NumsD B W .u8 Ab x)
    (hr : W'.ownsRow 0 64 1 (.slice A (X.length + 1) c) (X.length + 1) (ps ++ [.slice Ab x.length cb])) (hg : W.grownBy W' (Value.slice AX X.length cX).ownBlock) (ho : (Value.slice A (X.length + 1) c).ownBlock = (Value.slice AX X.length cX).ownBlock ∨ (Value.slice A (X.length + 1) c).ownBlock = some W.heap.size) :
    Blk W' q 70 [.slice AL L.length cL, .slice AX X.length cX] ∧ RT B (W'.setCell ⟨q, 1, none⟩ (.slice A (X.length + 1) c)) q AL cL A c (ps ++ [.slice Ab x.length cb]) L (X ++ [x]) ∧ Chg (footR q AL AX) W (W'.setCell ⟨q, 1, none⟩ (.slice A (X.length + 1) c)) ∧ (∀ b, footR q AL A b → footR q AL AX b ∨ W.heap.size ≤ b) := by
  have hl : (X ++ [x]).length = X.length + 1 := by simp
  have hpl : ps.length = X.length := by have := hT.rX.1; omega
  have hp := hT.blk.grown hg (blk_ne hT.blk hT.rX (by decide))
  have rL := hT.rL.kept hg (row_ne hT.rL hT.rX (by decide))
  have hC : Chg (footR q AL AX) W W' := (Chg.refl _ W).grown hg (fun g e => .inl (.inr (.inr (by rw [← e]; exact (own00 _ _ _).symm))))
  have hC2 := hC.setCell (p := ⟨q, 1, none⟩) (.inl (.inl rfl)) (.slice A (X.length + 1) c)
  refine ⟨hp, ⟨by rw [hl]; exact hp.set 1 _, row_setC rL hp (by decide) 1 _, by rw [hl]; exact row_setC hr hp (by decide) 1 _, fun j y hj => ?_⟩, hC2, fun b hb => ?_⟩
  · rcases get_app hj with h1 | ⟨rfl, rfl⟩
    · obtain ⟨A', c', h2, h3⟩ := hT.tx j y h1
      exact ⟨A', c', get_old h2, h3.stay (hC2.below hBW hB)⟩
    · exact ⟨Ab, cb, by rw [← hpl]; exact get_new _ _, hx.stay (hC2.below hBW hB)⟩
  · rcases hb with h | h | h
    · exact .inl (.inl h)
    · exact .inl (.inr (.inl h))
    · rcases ho with h1 | h1
      · exact .inl (.inr (.inr ((own00 _ _ _).symm.trans (h1.symm.trans ((own00 _ _ _).trans h)))))
      · have e := (own00 A (X.length + 1) c).trans h
        rw [h1] at e; injection e with e; exact .inr (by omega)
set_option maxRecDepth 50000 in
set_option maxHeartbeats 4000000 in
theorem rtext_any (B : Nat) (F : Nat → Prop) (q : Nat) (L : List T3) (X : List (List Int)) (A : Option Addr) (c : Nat) (x : List Int) (w : World) (h : RS B F w q L X) (hx2 : x.length ≤ 100) (hXb : ∀ y ∈ X, y.length ≤ 100) (hA : NumsD B w .u8 A x) (hL : L.length ≤ 39) (hX : X.length ≤ 39)
    (hLw : ∀ (i : Nat) u, L[i]? = some u → Twf u) (htx : ∀ j : Nat, j < X.length → ∃ i : Nat, L[i]? = some (9, (j : Int), 0)) :
    Calls Try.prog 30 #[.pointer (some ⟨q, 0, none⟩), .slice A x.length c] w fun e w' => ∃ n L' X', e = .returned (.int .i64 n) ∧ TextR L X x n L' X' ∧ RS B (Grw F w w') w' q L' X' ∧ Chg F w w' := by
  obtain ⟨AL, cL, AX, cX, ps, hT, hF, hFB, hBw⟩ := h
  have hGB : ∀ w', w.heap.size ≤ w'.heap.size → ∀ b, Grw F w w' b → B ≤ b := fun w' hw b hb => by
    rcases hb with h | h
    · exact hFB b h
    · omega
  have c0 : w.cell? ⟨q, 0, none⟩ = some (.slice AL L.length cL) := hT.blk.cell (i := 0) rfl
  have c1 : w.cell? ⟨q, 1, none⟩ = some (.slice AX X.length cX) := hT.blk.cell (i := 1) rfl
  have hAr := trow_of hT.rL
  have hX2 : (X.length : Int) ≤ 39 := by omega
  have HL := hid hL
  have HX := hid hx2
  clear hL hX hx2
  go_enter Try.func30, Try.ntmps30
  go_wp2
  go_loopw [5] (fun v wr => ∃ k : Nat, k ≤ X.length ∧ v = .int .i64 k ∧ Hid (∀ j : Nat, j < k → X[j]? ≠ some x) ∧ Below w.heap.size w wr) (fun v _ => X.length - (intOf v).toNat)
  case atStart => exact ⟨0, Nat.zero_le _, rfl, hid (fun j hj => absurd hj (Nat.not_lt_zero _)), Below.refl _ _⟩
  case round =>
    obtain ⟨k, hk, rfl, HI, hcl⟩ := hrel
    have d0 := cellB c0 hcl
    have d1 := cellB c1 hcl
    have hTr := hT.next hcl hBw
    by_cases hlt : k < X.length
    · obtain ⟨y, hy⟩ : ∃ y, X[k]? = some y := ⟨X[k], by simp [hlt]⟩
      obtain ⟨A', c', hp', hN'⟩ := hTr.tx k y hy
      obtain ⟨g, rfl, hcell⟩ := row_cell hTr.rX hp'
      have hkl : (k : Int) < X.length := by omega
      have hk0 : (0 : Int) ≤ k := by omega
      have hm : k + 1 ≤ X.length := by omega
      obtain ⟨b, hb⟩ : ∃ b, decide (y = x) = b := ⟨_, rfl⟩
      have hy1 : y.length ≤ 4096 := by have := hXb y (List.mem_of_getElem? hy); omega
      have hBr : B ≤ wr.heap.size := Nat.le_trans hBw hcl.size
      have hN1 : Nums wr .u8 A' y := hN'.nums hBr
      have hN2 : Nums wr .u8 A x := (hA.stay (hcl.mono hBw)).nums hBr
      have HY := hid hy
      have HLT := hid hlt
      have HB := hid hb
      clear hlt hk hp' hb hy
      cases b with
      | true =>
        have HE : Hid (y = x) := hid (of_decide_eq_true HB.out)
        obtain ⟨i0, hi0⟩ := htx k HLT.out
        have ht : Twf (9, (k : Int), 0) := hLw i0 _ hi0
        have hL40 : L.length ≤ 40 := by have := HL.out; omega
        go_wp2_with (first
          | (go_at_call 46; refine (rsame_any A' A y.length x.length c' c y x true _ hy1 rfl rfl HB.out hN1 hN2).mono ?_; rintro e W2 ⟨rfl, hB2⟩; have d02 := cellB d0 hB2; have hAr2 := (hAr.below hcl).below hB2)
          | (go_at_call 44; refine (find_any q cL AL L (9, (k : Int), 0) _ d02 hAr2 ht hLw hL40).mono ?_; rintro e W4 ⟨r, rfl, hB4, hr⟩))
        go_ret
        have hw4 : Below w.heap.size w W4 := (hcl.trans (Below.mono hB2 hcl.size)).trans (Below.mono hB4 (Nat.le_trans hcl.size hB2.size))
        have hT4 := hT.next hw4 hBw
        obtain ⟨i, hri, hi⟩ : ∃ i : Nat, r = i ∧ L[i]? = some (9, (k : Int), 0) := by
          rcases hr with ⟨_, h⟩ | h
          · exact absurd hi0 (h i0)
          · exact h
        subst hri
        exact ⟨i, L, X, rfl, .inl ⟨k, i, by rw [HY.out, HE.out], hi, rfl, rfl, rfl⟩, ⟨AL, cL, _, cX, ps, hT4, fun b hb => .inl (hF b hb), hGB W4 hw4.size, Nat.le_trans hBw hw4.size⟩, Chg.of hw4 F⟩
      | false =>
        have HE : Hid (y ≠ x) := hid (of_decide_eq_false HB.out)
        go_wp2_with (go_at_call 46; refine (rsame_any A' A y.length x.length c' c y x false _ hy1 rfl rfl HB.out hN1 hN2).mono ?_; rintro e W2 ⟨rfl, hB2⟩)
        go_roundw
        case rel => exact ⟨k + 1, hm, by go_num, hid (fun j hj h => by
          by_cases ej : j = k
          · subst ej; rw [HY.out] at h; injection h with h; exact HE.out h
          · exact HI.out j (by omega) h), hcl.trans (Below.mono hB2 hcl.size)⟩
        case measure => simp [intOf]; omega
    · have hge : ¬ (k : Int) < X.length := by omega
      have e : k = X.length := by omega
      subst e
      have HJ : Hid (∀ j : Nat, X[j]? ≠ some x) := hid (fun j hj => HI.out j (get_lt hj) hj)
      have hn0 := below_new wr (.cells #[.slice A x.length c] 64)
      have hBr : B ≤ wr.heap.size := Nat.le_trans hBw hcl.size
      have hT6 := hTr.next hn0 hBr
      have HR6 : Rw (wr.alloc (.cells #[.slice A x.length c] 64)) wr.heap.size 0 [.slice A x.length c] := Rw.new wr [.slice A x.length c] 64
      obtain ⟨W6, hW6⟩ : ∃ W6, wr.alloc (.cells #[.slice A x.length c] 64) = W6 := ⟨_, rfl⟩
      rw [hW6] at hn0 hT6 HR6
      have HW6 := hid hW6
      have hX1000 : X.length ≤ 1000 := by omega
      have hB6 : B ≤ W6.heap.size := Nat.le_trans hBr hn0.size
      have hN6 : NumsD B W6 .u8 A x := (hA.stay (hcl.mono hBw)).stay (hn0.mono hBr)
      have hone : ∀ u ∈ [Value.slice A x.length c], u.oneCell' = true := by simp [Value.oneCell']
      have hw6 : Below w.heap.size w W6 := hcl.trans (hn0.mono hcl.size)
      clear hk hlt hAr HI hW6 hTr
      go_upto_region 7 with (at_builtin; rw [HW6.out]; refine wpList_app1 rfl (.tmp 32) (.tmp 34) 68 64 rfl Try.underlying68 infBb rfl (by decide) (by decide) hT6.rX rfl wr.heap.size rfl HR6 rfl hone hX1000 ?_; rintro u W7 ⟨A7, c7, rfl, hl7, hm7, hr7, hg7, ho7⟩; obtain ⟨hp, hT8, hC8, hf8⟩ := rt_text hT6 (fun b hb => hFB b (hF b hb)) hB6 hN6 hr7 hg7 ho7; have x0 := hp.cell (i := 1) rfl; have y0 := hp.free 1)
      obtain ⟨W8, hW8⟩ : ∃ W8, W7.setCell ⟨q, 1, none⟩ (.slice A7 (X.length + 1) c7) = W8 := ⟨_, rfl⟩
      rw [hW8] at hT8 hC8 ⊢
      have hl : (X ++ [x]).length = X.length + 1 := by simp
      have hC9 : Chg F w W8 := (Chg.of hw6 F).trans hC8 (fun b _ hb => hF b hb)
      have hf9 : ∀ b, footR q AL A7 b → F b ∨ w.heap.size ≤ b := fun b hb => by
        rcases hf8 b hb with h1 | h1
        · exact .inl (hF b h1)
        · exact .inr (Nat.le_trans hw6.size h1)
      have hf9B : ∀ b, footR q AL A7 b → B ≤ b := fun b hb => by
        rcases hf9 b hb with h | h
        · exact hFB b h
        · omega
      have hBW8 : B ≤ W8.heap.size := Nat.le_trans hBw hC9.size
      have hwl : IntKind.i64.wrap ((X.length : Int) + 1 - 1) = X.length := by rw [show (X.length : Int) + 1 - 1 = X.length by omega]; exact IntWalk.i64_in _ ⟨by omega, by omega⟩
      have hwl0 : IntKind.i64.wrap (X.length : Int) = X.length := IntWalk.i64_in _ ⟨by omega, by omega⟩
      have htcx : [Value.int .i64 9, Value.int .i64 (X.length : Int), Value.int .i64 0] = tc (9, (X.length : Int), 0) := rfl
      have hL1000 : L.length ≤ 1000 := by have := HL.out; omega
      have hblk8 : Blk W8 q 70 [.slice AL L.length cL, .slice A7 (X.length + 1) c7] := by have := hT8.blk; rw [hl] at this; exact this
      clear hW8 hp x0 y0 hC8 hf8 hr7 hg7 ho7 hT6 HR6 c0 c1 d0 d1 hT hF
      refine region_evt 14 13 60 [false, true, true, true, true, true, true, true, true, true, true, true, true, false] [Is (Value.pointer (some ⟨q, 0, none⟩)), Is (Value.pointer (some ⟨q, 0, none⟩)), Is (Value.pointer (some ⟨q, 0, none⟩)), Is (Value.pointer (some ⟨q, 0, none⟩)), Is (Value.slice AL L.length cL), Is (Value.pointer (some ⟨q, 0, none⟩)), Is (Value.pointer (some ⟨q, 0, none⟩)), Is (Value.pointer (some ⟨q, 1, none⟩)), Is (Value.slice A7 (X.length + 1) c7), Is (Value.int .i64 ((X.length : Int) + 1)), Is (Value.int .i64 (X.length : Nat)), Is (Value.agg (tc (9, (X.length : Int), 0)).toArray), IsRowV W8.heap.size 1 (tc (9, (X.length : Int), 0)), (fun _ _ => True)] [38, 39, 40, 41, 42, 43, 44, 45, 46, 47, 48, 49, 50, 51] (AppR 50 3 (.slice AL L.length cL) L.length (flat L) (tc (9, (X.length : Int), 0))) (by kernel_rfl) (by kernel_rfl) (by kernel_rfl) (Nat.le_of_eq rfl) (grows_cons (Is.grows _) (grows_cons (Is.grows _) (grows_cons (Is.grows _) (grows_cons (Is.grows _) (grows_cons (Is.grows _) (grows_cons (Is.grows _) (grows_cons (Is.grows _) (grows_cons (Is.grows _) (grows_cons (Is.grows _) (grows_cons (Is.grows _) (grows_cons (Is.grows _) (grows_cons (Is.grows _) (grows_cons (IsRowV.grows _ _ _) (grows_cons (fun _ _ _ _ _ => trivial) grows_nil))))))))))))))
        ⟨.inr (.inr ⟨rfl, pure_ex (Value.pointer (some ⟨q, 0, none⟩)) rfl rfl (fun a w0 ww hw hf hd => by
               have h0 : a.eval (.tmp 0) = Value.pointer (some ⟨q, 0, none⟩) := ((knows_out 0 (by kernel_rfl) rfl) : Knows _ _ _ _ _ _ 0 _ _) a w0 hw hf hd
               have hcc : ∀ c, a.eval (.const c) = c := fun _ => rfl
               revert hcc h0
               generalize a.eval = ev
               intro hcc h0
               unfold execOp
               simp only [h0, hcc]
               go_simp)⟩),
         .inr (.inl ⟨rfl, step_ex (Value.pointer (some ⟨q, 0, none⟩)) rfl (.inl rfl) rfl (fun a ww hw hf hd => by
               have h0 : a.eval (.tmp 0) = Value.pointer (some ⟨q, 0, none⟩) := ((knows_out 0 (by kernel_rfl) rfl) : Knows _ _ _ _ _ _ 1 _ _) a ww hw hf hd
               have hcc : ∀ c, a.eval (.const c) = c := fun _ => rfl
               revert hcc h0
               generalize a.eval = ev
               intro hcc h0
               unfold execOp
               simp only [h0, hcc]
               go_simp)⟩),
         .inr (.inl ⟨rfl, step_ex (Value.pointer (some ⟨q, 0, none⟩)) rfl (.inl rfl) rfl (fun a ww hw hf hd => by
               have h39 : a.eval (.tmp 39) = Value.pointer (some ⟨q, 0, none⟩) := ((knows_in 1 39 (by decide) (by kernel_rfl) rfl rfl) : Knows _ _ _ _ _ _ 2 _ _) a ww hw hf hd
               have hcc : ∀ c, a.eval (.const c) = c := fun _ => rfl
               revert hcc h39
               generalize a.eval = ev
               intro hcc h39
               unfold execOp
               simp only [h39, hcc]
               go_simp)⟩),
         .inr (.inl ⟨rfl, step_ex (Value.pointer (some ⟨q, 0, none⟩)) rfl (.inl rfl) rfl (fun a ww hw hf hd => by
               have h40 : a.eval (.tmp 40) = Value.pointer (some ⟨q, 0, none⟩) := ((knows_in 2 40 (by decide) (by kernel_rfl) rfl rfl) : Knows _ _ _ _ _ _ 3 _ _) a ww hw hf hd
               have hcc : ∀ c, a.eval (.const c) = c := fun _ => rfl
               revert hcc h40
               generalize a.eval = ev
               intro hcc h40
               unfold execOp
               simp only [h40, hcc]
               go_simp)⟩),
         .inr (.inl ⟨rfl, step_ex (Value.slice AL L.length cL) rfl (.inl rfl) rfl (fun a ww hw hf hd => by
               have h41 : a.eval (.tmp 41) = Value.pointer (some ⟨q, 0, none⟩) := ((knows_in 3 41 (by decide) (by kernel_rfl) rfl rfl) : Knows _ _ _ _ _ _ 4 _ _) a ww hw hf hd
               have f0 : ww.cell? ⟨q, 0, none⟩ = some (Value.slice AL L.length cL) := (hblk8.next hw).cell (i := 0) rfl
               have hcc : ∀ c, a.eval (.const c) = c := fun _ => rfl
               revert hcc h41
               generalize a.eval = ev
               intro hcc h41
               unfold execOp
               simp only [h41, hcc]
               go_simp)⟩),
         .inr (.inl ⟨rfl, step_ex (Value.pointer (some ⟨q, 0, none⟩)) rfl (.inl rfl) rfl (fun a ww hw hf hd => by
               have h0 : a.eval (.tmp 0) = Value.pointer (some ⟨q, 0, none⟩) := ((knows_out 0 (by kernel_rfl) rfl) : Knows _ _ _ _ _ _ 5 _ _) a ww hw hf hd
               have hcc : ∀ c, a.eval (.const c) = c := fun _ => rfl
               revert hcc h0
               generalize a.eval = ev
               intro hcc h0
               unfold execOp
               simp only [h0, hcc]
               go_simp)⟩),
         .inr (.inl ⟨rfl, step_ex (Value.pointer (some ⟨q, 0, none⟩)) rfl (.inl rfl) rfl (fun a ww hw hf hd => by
               have h43 : a.eval (.tmp 43) = Value.pointer (some ⟨q, 0, none⟩) := ((knows_in 5 43 (by decide) (by kernel_rfl) rfl rfl) : Knows _ _ _ _ _ _ 6 _ _) a ww hw hf hd
               have hcc : ∀ c, a.eval (.const c) = c := fun _ => rfl
               revert hcc h43
               generalize a.eval = ev
               intro hcc h43
               unfold execOp
               simp only [h43, hcc]
               go_simp)⟩),
         .inr (.inl ⟨rfl, step_ex (Value.pointer (some ⟨q, 1, none⟩)) rfl (.inl rfl) rfl (fun a ww hw hf hd => by
               have h44 : a.eval (.tmp 44) = Value.pointer (some ⟨q, 0, none⟩) := ((knows_in 6 44 (by decide) (by kernel_rfl) rfl rfl) : Knows _ _ _ _ _ _ 7 _ _) a ww hw hf hd
               have hcc : ∀ c, a.eval (.const c) = c := fun _ => rfl
               revert hcc h44
               generalize a.eval = ev
               intro hcc h44
               unfold execOp
               simp only [h44, hcc]
               go_simp)⟩),
         .inr (.inl ⟨rfl, step_ex (Value.slice A7 (X.length + 1) c7) rfl (.inl rfl) rfl (fun a ww hw hf hd => by
               have h45 : a.eval (.tmp 45) = Value.pointer (some ⟨q, 1, none⟩) := ((knows_in 7 45 (by decide) (by kernel_rfl) rfl rfl) : Knows _ _ _ _ _ _ 8 _ _) a ww hw hf hd
               have f0 : ww.cell? ⟨q, 1, none⟩ = some (Value.slice A7 (X.length + 1) c7) := (hblk8.next hw).cell (i := 1) rfl
               have hcc : ∀ c, a.eval (.const c) = c := fun _ => rfl
               revert hcc h45
               generalize a.eval = ev
               intro hcc h45
               unfold execOp
               simp only [h45, hcc]
               go_simp)⟩),
         .inr (.inl ⟨rfl, step_ex (Value.int .i64 ((X.length : Int) + 1)) rfl (.inl rfl) rfl (fun a ww hw hf hd => by
               have h46 : a.eval (.tmp 46) = Value.slice A7 (X.length + 1) c7 := ((knows_in 8 46 (by decide) (by kernel_rfl) rfl rfl) : Knows _ _ _ _ _ _ 9 _ _) a ww hw hf hd
               have hcc : ∀ c, a.eval (.const c) = c := fun _ => rfl
               revert hcc h46
               generalize a.eval = ev
               intro hcc h46
               unfold execOp
               simp only [h46, hcc]
               go_simp)⟩),
         .inr (.inl ⟨rfl, step_ex (Value.int .i64 (X.length : Nat)) rfl (.inl rfl) rfl (fun a ww hw hf hd => by
               have h47 : a.eval (.tmp 47) = Value.int .i64 ((X.length : Int) + 1) := ((knows_in 9 47 (by decide) (by kernel_rfl) rfl rfl) : Knows _ _ _ _ _ _ 10 _ _) a ww hw hf hd
               have f0 := hwl
               have f1 := hwl0
               have hcc : ∀ c, a.eval (.const c) = c := fun _ => rfl
               revert hcc h47
               generalize a.eval = ev
               intro hcc h47
               unfold execOp
               simp only [h47, hcc]
               go_simp)⟩),
         .inr (.inl ⟨rfl, step_ex (Value.agg (tc (9, (X.length : Int), 0)).toArray) rfl (.inl rfl) rfl (fun a ww hw hf hd => by
               have h48 : a.eval (.tmp 48) = Value.int .i64 (X.length : Nat) := ((knows_in 10 48 (by decide) (by kernel_rfl) rfl rfl) : Knows _ _ _ _ _ _ 11 _ _) a ww hw hf hd
               have hcc : ∀ c, a.eval (.const c) = c := fun _ => rfl
               revert hcc h48
               generalize a.eval = ev
               intro hcc h48
               unfold execOp
               simp only [h48, hcc]
               go_simp)⟩),
         .inr (.inl ⟨rfl, step_bsl (.inl rfl) rfl Try.underlying31 infT (by decide) (by decide) (vs := (tc (9, (X.length : Int), 0))) (by first | kernel_rfl | rfl) rfl (parts1 (knows_in 11 49 (by decide) (by kernel_rfl) rfl rfl))⟩),
         .inl rfl, trivial⟩ _ rfl rfl ?_ ?_
      · intro a ww hw hf hd
        have h42 : a.eval (.tmp 42) = Value.slice AL L.length cL := hd 4 42 (by decide) (by kernel_rfl) rfl
        obtain ⟨b, hb1, hb0, hb2⟩ := hd 12 50 (by decide) (by kernel_rfl) rfl
        exact evt_app rfl rfl Try.underlying31 infTb rfl (by decide) (by decide) (row_next hT8.rL hw) h42 ⟨b, hb1, hb2⟩ rfl (tc_one _) hL1000
      intro val W2 W3 hw hS hR
      have e38 : val 38 = Value.pointer (some ⟨q, 0, none⟩) := hS 0 38 (by decide) (by decide) rfl
      have e39 : val 39 = Value.pointer (some ⟨q, 0, none⟩) := hS 1 39 (by decide) (by decide) rfl
      have e40 : val 40 = Value.pointer (some ⟨q, 0, none⟩) := hS 2 40 (by decide) (by decide) rfl
      have e41 : val 41 = Value.pointer (some ⟨q, 0, none⟩) := hS 3 41 (by decide) (by decide) rfl
      have e42 : val 42 = Value.slice AL L.length cL := hS 4 42 (by decide) (by decide) rfl
      have e43 : val 43 = Value.pointer (some ⟨q, 0, none⟩) := hS 5 43 (by decide) (by decide) rfl
      have e44 : val 44 = Value.pointer (some ⟨q, 0, none⟩) := hS 6 44 (by decide) (by decide) rfl
      have e45 : val 45 = Value.pointer (some ⟨q, 1, none⟩) := hS 7 45 (by decide) (by decide) rfl
      have e46 : val 46 = Value.slice A7 (X.length + 1) c7 := hS 8 46 (by decide) (by decide) rfl
      have e47 : val 47 = Value.int .i64 ((X.length : Int) + 1) := hS 9 47 (by decide) (by decide) rfl
      have e48 : val 48 = Value.int .i64 (X.length : Nat) := hS 10 48 (by decide) (by decide) rfl
      have e49 : val 49 = Value.agg (tc (9, (X.length : Int), 0)).toArray := hS 11 49 (by decide) (by decide) rfl
      have hR := hR 51 rfl
      obtain ⟨A51, c51, e51, hl51, hm51, hr51, hg51, ho51⟩ := hR
      rw [e51] at hr51 ho51
      simp only [putVals, List.foldl_cons, List.foldl_nil, List.drop_succ_cons, List.drop_zero, Act.put, List.setIfInBounds_toArray, List.set_cons_succ, List.set_cons_zero, e38, e39, e40, e41, e42, e43, e44, e45, e46, e47, e48, e49, e51]
      generalize val 50 = g50
      clear e38 e39 e40 e41 e42 e43 e44 e45 e46 e47 e48 e49 e51 hS
      obtain ⟨hp, hTA, hCA, hfA⟩ := rt_app (hT8.next hw hBW8) hf9B (Nat.le_trans hBW8 hw.size) hr51 hg51 ho51
      have x0 := hp.cell (i := 0) rfl
      have y0 := hp.free 0
      have hCB : Chg F w W2 := hC9.next hw
      have hCC : Chg F w (W3.setCell ⟨q, 0, none⟩ (.slice A51 (L.length + 1) c51)) := hCB.trans hCA (fun b hb h => by
        rcases hf9 b h with h1 | h1
        · exact h1
        · omega)
      obtain ⟨WA, hWA⟩ : ∃ WA, W3.setCell ⟨q, 0, none⟩ (.slice A51 (L.length + 1) c51) = WA := ⟨_, rfl⟩
      rw [hWA] at hTA hCC
      have HWA := hid hWA
      have hlA : (L ++ [(9, (X.length : Int), 0)]).length = L.length + 1 := by simp
      have cA : WA.cell? ⟨q, 0, none⟩ = some (.slice A51 (L.length + 1) c51) := by have := hTA.blk.cell (i := 0) rfl; rw [hlA] at this; exact this
      have hwl2 : IntKind.i64.wrap ((L.length : Int) + 1 - 1) = L.length := by rw [show (L.length : Int) + 1 - 1 = L.length by omega]; exact IntWalk.i64_in _ ⟨by omega, by omega⟩
      have hz2 : w.heap.size ≤ W2.heap.size := hCB.size
      clear hWA hp hCA hr51 hg51 ho51 hT8 hw hblk8
      go_upto_region 8 with (fail)
      rw [HWA.out]
      clear x0 y0
      go_wp2
      go_ret
      refine ⟨L.length, ?_, L ++ [(9, (X.length : Int), 0)], X ++ [x], .inr ⟨HJ.out, rfl, rfl, rfl⟩, ⟨_, _, _, _, _, hTA, fun b hb => ?_, hGB WA hCC.size, Nat.le_trans hBw hCC.size⟩, hCC⟩
      · first | rfl | (simp; omega)
      · have hbl := hTA.lt b hb
        rcases hfA b hb with h1 | h1
        · rcases hf9 b h1 with h2 | h2
          · exact .inl h2
          · exact .inr ⟨h2, hbl⟩
        · exact .inr ⟨Nat.le_trans hz2 h1, hbl⟩
end Go.Proofs.Ytboofkmbjmnpeaa
