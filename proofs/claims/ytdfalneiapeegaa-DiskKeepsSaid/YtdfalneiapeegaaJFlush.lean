/- A flush, by the document. -/
import Derived.Test.YtdfalneiapeegaaJWrite
namespace Go.Proofs.Ytdfalneiapeegaa
open Go Go.RowKit Go.Maps

theorem cellB {w w' : World} {a : Addr} {v : Value} (h : w.cell? a = some v) (hb : Below w.heap.size w w') : w'.cell? a = some v := (hb.cell (World.block_lt_of_cell? w a h)).trans h
theorem RT.row0 {B : Nat → Prop} {w : World} {q n : Nat} {AK : Option Addr} {cK : Nat} {AW : Option Addr} {cW : Nat} {ps ws : List Value} {K : List (List Int)} {W : List (Nat × List Int)} {f : Int} {off : Bool} {li : Int} (h : RT B w q n AK cK AW cW ps ws K W f off li) (hn : 0 < n) : ∃ gK, AK = some ⟨gK, 0, none⟩ := by
  obtain ⟨g, e, _⟩ := row_range h.rK hn
  exact ⟨g, e⟩
set_option maxHeartbeats 4000000 in
theorem rflush_core (B : Nat → Prop) (q n : Nat) (AK : Option Addr) (cK : Nat) (AW : Option Addr) (cW : Nat) (ps ws : List Value) (K : List (List Int)) (W : List (Nat × List Int)) (f fu li fB : Int) (w : World)
    (hT : RT B w q n AK cK AW cW ps ws K W f false li) (hf : Hid (f = fu)) (h0 : Hid (-1 ≤ fu)) (h9 : Hid (fu ≤ 9223372036854775807)) (hWl : W.length ≤ 900) (hoB : Hid ((burnD ⟨K, W, fu, false, li⟩).off = false)) (hfB : Hid ((burnD ⟨K, W, fu, false, li⟩).fu = fB)) :
    Calls Try.prog 28 #[.pointer (some ⟨q, 0, none⟩)] w fun e w' => e = .returned (.int .i64 0) ∧ (∃ ps', RT B w' q n AK cK none 0 ps' [] (pres K W) [] fB false li) ∧ Chg (footR q AK AW) w w' := by
  have c3 := hT.blk.cell (i := 3) rfl
  obtain ⟨l, hl⟩ : ∃ l, W.length = l := ⟨_, rfl⟩
  have HL := hid hl
  rw [hl] at hWl
  have HB := rburn_any hT hf.out h0.out h9.out
  rw [hoB.out, hfB.out] at HB
  clear hl hT hf h0 h9 hoB hfB
  go_enter Try.func28, Try.ntmps28
  go_upto_region 4 with (go_at_call 38; refine HB.mono ?_; rintro e w3 ⟨rfl, ⟨f', hT3, hf3⟩, hC3⟩)
  obtain rfl : f' = fB := by first | exact hf3 trivial | exact hf3 | exact hf3 rfl
  have hC3' := hC3.sub (H := footR q AK AW) (fun b _ hb => .inl hb)
  have HT3 := hid hT3
  have HC3 := hid hC3'
  clear c3 hC3 hC3' hT3 hf3
  go_loopw [3] (fun v wr => ∃ k : Nat, k ≤ l ∧ v = .int .i64 k ∧ Hid (∃ ps', RT B wr q n AK cK AW cW ps' ws (pres K (W.take k)) W f' false li) ∧ Hid (Chg (footR q AK AW) w wr)) (fun v _ => l - (intOf v).toNat)
  case atStart => exact ⟨0, Nat.zero_le _, rfl, hid ⟨ps, HT3.out⟩, HC3⟩
  case round =>
    clear HT3 HC3
    obtain ⟨k, hk, rfl, HT, HC⟩ := hrel
    obtain ⟨ps', hT⟩ := HT.out
    have c1 := hT.blk.cell (i := 1) rfl
    rw [HL.out] at c1
    by_cases hlt : k < l
    · obtain ⟨x, hx⟩ : ∃ x, W[k]? = some x := ⟨_, List.getElem?_eq_getElem (by rw [HL.out]; exact hlt)⟩
      obtain ⟨xn, xd⟩ := x
      have HX : Hid (xn < n ∧ xd.length = 64) := hid (hT.wW.get hx)
      obtain ⟨gW, A, c, rfl, hc1, hc2, hN⟩ := hT.wait hx
      obtain ⟨gK, rfl⟩ := hT.row0 (by have := HX.out.1; omega)
      dsimp only at hc1 hN
      have Hx := hid hx
      have hkl : (k : Int) < l := by omega
      have hk0 : (0 : Int) ≤ k := by omega
      have hN0 : (0 : Int) ≤ xn := by omega
      have hN1 : (xn : Int) < n := by have := HX.out.1; omega
      have HK := hid hlt
      clear HT hx hk hlt
      go_upto_region 6 with (fail)
      clear c1
      refine region_spec2 21 45 (fun _ => false) [Is (Value.pointer (some ⟨q, 0, none⟩)), Is (Value.pointer (some ⟨q, 0, none⟩)), Is (Value.pointer (some ⟨q, 0, none⟩)), Is (Value.slice (some ⟨gK, 0, none⟩) n cK), Is (Value.pointer (some ⟨q, 0, none⟩)), Is (Value.pointer (some ⟨q, 0, none⟩)), Is (Value.pointer (some ⟨q, 1, none⟩)), Is (Value.slice (some ⟨gW, 0, none⟩) l cW), Is (Value.int .i64 (k : Nat)), Is (Value.pointer (some ⟨gW, k * 2, none⟩)), Is (Value.pointer (some ⟨gW, k * 2, none⟩)), Is (Value.int .i64 (xn : Nat)), Is (Value.pointer (some ⟨q, 0, none⟩)), Is (Value.pointer (some ⟨q, 0, none⟩)), Is (Value.pointer (some ⟨q, 1, none⟩)), Is (Value.slice (some ⟨gW, 0, none⟩) l cW), Is (Value.int .i64 (k : Nat)), Is (Value.pointer (some ⟨gW, k * 2, none⟩)), Is (Value.pointer (some ⟨gW, k * 2 + 1, none⟩)), Is (Value.slice A 64 c), Is (Value.pointer (some ⟨gK, xn, none⟩))] [21, 22, 23, 24, 25, 26, 27, 28, 29, 30, 31, 32, 33, 34, 35, 36, 37, 38, 39, 40, 41] (by kernel_rfl) (by kernel_rfl) (by kernel_rfl) (Nat.le_of_eq rfl) (grows_cons (Is.grows _) (grows_cons (Is.grows _) (grows_cons (Is.grows _) (grows_cons (Is.grows _) (grows_cons (Is.grows _) (grows_cons (Is.grows _) (grows_cons (Is.grows _) (grows_cons (Is.grows _) (grows_cons (Is.grows _) (grows_cons (Is.grows _) (grows_cons (Is.grows _) (grows_cons (Is.grows _) (grows_cons (Is.grows _) (grows_cons (Is.grows _) (grows_cons (Is.grows _) (grows_cons (Is.grows _) (grows_cons (Is.grows _) (grows_cons (Is.grows _) (grows_cons (Is.grows _) (grows_cons (Is.grows _) (grows_cons (Is.grows _) grows_nil)))))))))))))))))))))
        ⟨(step_ex _ rfl (.inl rfl) rfl (fun a ww hw hf hd => by
       have h0 : a.eval (.tmp 0) = Value.pointer (some ⟨q, 0, none⟩) := ((knows_out 0 (by kernel_rfl) rfl) : Knows _ _ _ _ _ _ 0 _ _) a ww hw hf hd
       revert h0
       generalize a.eval = ev
       intro h0
       unfold execOp
       simp only [h0]
       go_simp)),
         (step_ex _ rfl (.inl rfl) rfl (fun a ww hw hf hd => by
       have h21 : a.eval (.tmp 21) = Value.pointer (some ⟨q, 0, none⟩) := ((knows_in 0 21 (by decide) (by kernel_rfl) rfl rfl) : Knows _ _ _ _ _ _ 1 _ _) a ww hw hf hd
       revert h21
       generalize a.eval = ev
       intro h21
       unfold execOp
       simp only [h21]
       go_simp)),
         (step_ex _ rfl (.inl rfl) rfl (fun a ww hw hf hd => by
       have h22 : a.eval (.tmp 22) = Value.pointer (some ⟨q, 0, none⟩) := ((knows_in 1 22 (by decide) (by kernel_rfl) rfl rfl) : Knows _ _ _ _ _ _ 2 _ _) a ww hw hf hd
       revert h22
       generalize a.eval = ev
       intro h22
       unfold execOp
       simp only [h22]
       go_simp)),
         (step_ex _ rfl (.inl rfl) rfl (fun a ww hw hf hd => by
       have h23 : a.eval (.tmp 23) = Value.pointer (some ⟨q, 0, none⟩) := ((knows_in 2 23 (by decide) (by kernel_rfl) rfl rfl) : Knows _ _ _ _ _ _ 3 _ _) a ww hw hf hd
       have f0 : ww.cell? ⟨q, 0, none⟩ = some (Value.slice (some ⟨gK, 0, none⟩) n cK) := (hT.next hw).blk.cell (i := 0) rfl
       revert h23
       generalize a.eval = ev
       intro h23
       unfold execOp
       simp only [h23]
       go_simp)),
         (step_ex _ rfl (.inl rfl) rfl (fun a ww hw hf hd => by
       have h0 : a.eval (.tmp 0) = Value.pointer (some ⟨q, 0, none⟩) := ((knows_out 0 (by kernel_rfl) rfl) : Knows _ _ _ _ _ _ 4 _ _) a ww hw hf hd
       revert h0
       generalize a.eval = ev
       intro h0
       unfold execOp
       simp only [h0]
       go_simp)),
         (step_ex _ rfl (.inl rfl) rfl (fun a ww hw hf hd => by
       have h25 : a.eval (.tmp 25) = Value.pointer (some ⟨q, 0, none⟩) := ((knows_in 4 25 (by decide) (by kernel_rfl) rfl rfl) : Knows _ _ _ _ _ _ 5 _ _) a ww hw hf hd
       revert h25
       generalize a.eval = ev
       intro h25
       unfold execOp
       simp only [h25]
       go_simp)),
         (step_ex _ rfl (.inl rfl) rfl (fun a ww hw hf hd => by
       have h26 : a.eval (.tmp 26) = Value.pointer (some ⟨q, 0, none⟩) := ((knows_in 5 26 (by decide) (by kernel_rfl) rfl rfl) : Knows _ _ _ _ _ _ 6 _ _) a ww hw hf hd
       revert h26
       generalize a.eval = ev
       intro h26
       unfold execOp
       simp only [h26]
       go_simp)),
         (step_ex _ rfl (.inl rfl) rfl (fun a ww hw hf hd => by
       have h27 : a.eval (.tmp 27) = Value.pointer (some ⟨q, 1, none⟩) := ((knows_in 6 27 (by decide) (by kernel_rfl) rfl rfl) : Knows _ _ _ _ _ _ 7 _ _) a ww hw hf hd
       have f0 : ww.cell? ⟨q, 1, none⟩ = some (Value.slice (some ⟨gW, 0, none⟩) l cW) := by have h := (hT.next hw).blk.cell (i := 1) rfl; rwa [HL.out] at h
       revert h27
       generalize a.eval = ev
       intro h27
       unfold execOp
       simp only [h27]
       go_simp)),
         (step_ex _ rfl (.inl rfl) rfl (fun a ww hw hf hd => by
       have h3 : a.eval (.tmp 3) = Value.int .i64 (k : Nat) := ((knows_out 3 (by kernel_rfl) rfl) : Knows _ _ _ _ _ _ 8 _ _) a ww hw hf hd
       revert h3
       generalize a.eval = ev
       intro h3
       unfold execOp
       simp only [h3]
       go_simp)),
         (step_ex _ rfl (.inl rfl) rfl (fun a ww hw hf hd => by
       have h28 : a.eval (.tmp 28) = Value.slice (some ⟨gW, 0, none⟩) l cW := ((knows_in 7 28 (by decide) (by kernel_rfl) rfl rfl) : Knows _ _ _ _ _ _ 9 _ _) a ww hw hf hd
       have h29 : a.eval (.tmp 29) = Value.int .i64 (k : Nat) := ((knows_in 8 29 (by decide) (by kernel_rfl) rfl rfl) : Knows _ _ _ _ _ _ 9 _ _) a ww hw hf hd
       have f0 := hk0
       have f1 := hkl
       revert h28 h29
       generalize a.eval = ev
       intro h28 h29
       unfold execOp
       simp only [h28, h29]
       go_simp)),
         (step_ex _ rfl (.inl rfl) rfl (fun a ww hw hf hd => by
       have h30 : a.eval (.tmp 30) = Value.pointer (some ⟨gW, k * 2, none⟩) := ((knows_in 9 30 (by decide) (by kernel_rfl) rfl rfl) : Knows _ _ _ _ _ _ 10 _ _) a ww hw hf hd
       revert h30
       generalize a.eval = ev
       intro h30
       unfold execOp
       simp only [h30]
       go_simp)),
         (step_ex _ rfl (.inl rfl) rfl (fun a ww hw hf hd => by
       have h31 : a.eval (.tmp 31) = Value.pointer (some ⟨gW, k * 2, none⟩) := ((knows_in 10 31 (by decide) (by kernel_rfl) rfl rfl) : Knows _ _ _ _ _ _ 11 _ _) a ww hw hf hd
       have f0 : ww.cell? ⟨gW, k * 2, none⟩ = some (Value.int .i64 (xn : Nat)) := cellB hc1 hw
       revert h31
       generalize a.eval = ev
       intro h31
       unfold execOp
       simp only [h31]
       go_simp)),
         (step_ex _ rfl (.inl rfl) rfl (fun a ww hw hf hd => by
       have h0 : a.eval (.tmp 0) = Value.pointer (some ⟨q, 0, none⟩) := ((knows_out 0 (by kernel_rfl) rfl) : Knows _ _ _ _ _ _ 12 _ _) a ww hw hf hd
       revert h0
       generalize a.eval = ev
       intro h0
       unfold execOp
       simp only [h0]
       go_simp)),
         (step_ex _ rfl (.inl rfl) rfl (fun a ww hw hf hd => by
       have h33 : a.eval (.tmp 33) = Value.pointer (some ⟨q, 0, none⟩) := ((knows_in 12 33 (by decide) (by kernel_rfl) rfl rfl) : Knows _ _ _ _ _ _ 13 _ _) a ww hw hf hd
       revert h33
       generalize a.eval = ev
       intro h33
       unfold execOp
       simp only [h33]
       go_simp)),
         (step_ex _ rfl (.inl rfl) rfl (fun a ww hw hf hd => by
       have h34 : a.eval (.tmp 34) = Value.pointer (some ⟨q, 0, none⟩) := ((knows_in 13 34 (by decide) (by kernel_rfl) rfl rfl) : Knows _ _ _ _ _ _ 14 _ _) a ww hw hf hd
       revert h34
       generalize a.eval = ev
       intro h34
       unfold execOp
       simp only [h34]
       go_simp)),
         (step_ex _ rfl (.inl rfl) rfl (fun a ww hw hf hd => by
       have h35 : a.eval (.tmp 35) = Value.pointer (some ⟨q, 1, none⟩) := ((knows_in 14 35 (by decide) (by kernel_rfl) rfl rfl) : Knows _ _ _ _ _ _ 15 _ _) a ww hw hf hd
       have f0 : ww.cell? ⟨q, 1, none⟩ = some (Value.slice (some ⟨gW, 0, none⟩) l cW) := by have h := (hT.next hw).blk.cell (i := 1) rfl; rwa [HL.out] at h
       revert h35
       generalize a.eval = ev
       intro h35
       unfold execOp
       simp only [h35]
       go_simp)),
         (step_ex _ rfl (.inl rfl) rfl (fun a ww hw hf hd => by
       have h3 : a.eval (.tmp 3) = Value.int .i64 (k : Nat) := ((knows_out 3 (by kernel_rfl) rfl) : Knows _ _ _ _ _ _ 16 _ _) a ww hw hf hd
       revert h3
       generalize a.eval = ev
       intro h3
       unfold execOp
       simp only [h3]
       go_simp)),
         (step_ex _ rfl (.inl rfl) rfl (fun a ww hw hf hd => by
       have h36 : a.eval (.tmp 36) = Value.slice (some ⟨gW, 0, none⟩) l cW := ((knows_in 15 36 (by decide) (by kernel_rfl) rfl rfl) : Knows _ _ _ _ _ _ 17 _ _) a ww hw hf hd
       have h37 : a.eval (.tmp 37) = Value.int .i64 (k : Nat) := ((knows_in 16 37 (by decide) (by kernel_rfl) rfl rfl) : Knows _ _ _ _ _ _ 17 _ _) a ww hw hf hd
       have f0 := hk0
       have f1 := hkl
       revert h36 h37
       generalize a.eval = ev
       intro h36 h37
       unfold execOp
       simp only [h36, h37]
       go_simp)),
         (step_ex _ rfl (.inl rfl) rfl (fun a ww hw hf hd => by
       have h38 : a.eval (.tmp 38) = Value.pointer (some ⟨gW, k * 2, none⟩) := ((knows_in 17 38 (by decide) (by kernel_rfl) rfl rfl) : Knows _ _ _ _ _ _ 18 _ _) a ww hw hf hd
       revert h38
       generalize a.eval = ev
       intro h38
       unfold execOp
       simp only [h38]
       go_simp)),
         (step_ex _ rfl (.inl rfl) rfl (fun a ww hw hf hd => by
       have h39 : a.eval (.tmp 39) = Value.pointer (some ⟨gW, k * 2 + 1, none⟩) := ((knows_in 18 39 (by decide) (by kernel_rfl) rfl rfl) : Knows _ _ _ _ _ _ 19 _ _) a ww hw hf hd
       have f0 : ww.cell? ⟨gW, k * 2 + 1, none⟩ = some (Value.slice A 64 c) := cellB hc2 hw
       revert h39
       generalize a.eval = ev
       intro h39
       unfold execOp
       simp only [h39]
       go_simp)),
         (step_ex _ rfl (.inl rfl) rfl (fun a ww hw hf hd => by
       have h24 : a.eval (.tmp 24) = Value.slice (some ⟨gK, 0, none⟩) n cK := ((knows_in 3 24 (by decide) (by kernel_rfl) rfl rfl) : Knows _ _ _ _ _ _ 20 _ _) a ww hw hf hd
       have h32 : a.eval (.tmp 32) = Value.int .i64 (xn : Nat) := ((knows_in 11 32 (by decide) (by kernel_rfl) rfl rfl) : Knows _ _ _ _ _ _ 20 _ _) a ww hw hf hd
       have f0 := hN0
       have f1 := hN1
       revert h24 h32
       generalize a.eval = ev
       intro h24 h32
       unfold execOp
       simp only [h24, h32]
       go_simp)), trivial⟩ ?_
      intro val W5 hw hS _ _
      have e21 : val 21 = Value.pointer (some ⟨q, 0, none⟩) := hS 0 21 (by decide) rfl
      have e22 : val 22 = Value.pointer (some ⟨q, 0, none⟩) := hS 1 22 (by decide) rfl
      have e23 : val 23 = Value.pointer (some ⟨q, 0, none⟩) := hS 2 23 (by decide) rfl
      have e24 : val 24 = Value.slice (some ⟨gK, 0, none⟩) n cK := hS 3 24 (by decide) rfl
      have e25 : val 25 = Value.pointer (some ⟨q, 0, none⟩) := hS 4 25 (by decide) rfl
      have e26 : val 26 = Value.pointer (some ⟨q, 0, none⟩) := hS 5 26 (by decide) rfl
      have e27 : val 27 = Value.pointer (some ⟨q, 1, none⟩) := hS 6 27 (by decide) rfl
      have e28 : val 28 = Value.slice (some ⟨gW, 0, none⟩) l cW := hS 7 28 (by decide) rfl
      have e29 : val 29 = Value.int .i64 (k : Nat) := hS 8 29 (by decide) rfl
      have e30 : val 30 = Value.pointer (some ⟨gW, k * 2, none⟩) := hS 9 30 (by decide) rfl
      have e31 : val 31 = Value.pointer (some ⟨gW, k * 2, none⟩) := hS 10 31 (by decide) rfl
      have e32 : val 32 = Value.int .i64 (xn : Nat) := hS 11 32 (by decide) rfl
      have e33 : val 33 = Value.pointer (some ⟨q, 0, none⟩) := hS 12 33 (by decide) rfl
      have e34 : val 34 = Value.pointer (some ⟨q, 0, none⟩) := hS 13 34 (by decide) rfl
      have e35 : val 35 = Value.pointer (some ⟨q, 1, none⟩) := hS 14 35 (by decide) rfl
      have e36 : val 36 = Value.slice (some ⟨gW, 0, none⟩) l cW := hS 15 36 (by decide) rfl
      have e37 : val 37 = Value.int .i64 (k : Nat) := hS 16 37 (by decide) rfl
      have e38 : val 38 = Value.pointer (some ⟨gW, k * 2, none⟩) := hS 17 38 (by decide) rfl
      have e39 : val 39 = Value.pointer (some ⟨gW, k * 2 + 1, none⟩) := hS 18 39 (by decide) rfl
      have e40 : val 40 = Value.slice A 64 c := hS 19 40 (by decide) rfl
      have e41 : val 41 = Value.pointer (some ⟨gK, xn, none⟩) := hS 20 41 (by decide) rfl
      simp only [putVals, List.foldl_cons, List.foldl_nil, List.drop_succ_cons, List.drop_zero, Act.put, List.setIfInBounds_toArray, List.set_cons_succ, List.set_cons_zero, e21, e22, e23, e24, e25, e26, e27, e28, e29, e30, e31, e32, e33, e34, e35, e36, e37, e38, e39, e40, e41]
      clear e21 e22 e23 e24 e25 e26 e27 e28 e29 e30 e31 e32 e33 e34 e35 e36 e37 e38 e39 e40 e41 hS
      have hT5 := hT.next hw
      have hN5 := hN.keep (w' := W5) (fun b hb => hw.block b (hT.dis b hb).2)
      obtain ⟨gK', A', c', e', hcK, hfK, hNK⟩ := hT5.kept (j := xn) (List.getElem?_eq_getElem (by rw [hT5.nK]; exact HX.out.1))
      injection e' with e'
      injection e' with e'
      subst e'
      have hT6 := hT5.put (A := A) (c := c) HX.out.1 hN5 HX.out.2
      have hC6 := (HC.out.next hw).setCell (p := ⟨gK, xn, none⟩) (.inl (.inr (.inl rfl))) (.slice A 64 c)
      rw [← pres_take (x := (xn, xd)) Hx.out] at hT6
      have HT6 := hid (⟨_, hT6⟩ : ∃ ps', RT B (W5.setCell ⟨gK, xn, none⟩ (.slice A 64 c)) q n (some ⟨gK, 0, none⟩) cK (some ⟨gW, 0, none⟩) cW ps' ws (pres K (W.take (k + 1))) W f' false li)
      have HC6 := hid hC6
      clear hT hNK hT5 hN5 hT6 hC6 hw hc1 hc2 hN HC
      go_wp2
      go_roundw
      case rel => exact ⟨k + 1, HK.out, by go_num, HT6, HC6⟩
      case measure => have := HK.out; simp [intOf]; omega
    · have e : l = k := by omega
      subst e
      have hge : ¬ (l : Int) < l := by omega
      have hT2 : RT B wr q n AK cK AW cW ps' ws (pres K W) W f' false li := by
        have h := hT
        rw [List.take_of_length_le (by rw [HL.out]; exact Nat.le_refl _)] at h
        exact h
      have x1 := hT2.blk.free 1
      have HTD := hid hT2.drop
      have HCD := hid (HC.out.setCell (p := ⟨q, 1, none⟩) (.inl (.inl rfl)) (.slice none 0 0))
      clear hT hT2 HT HC hlt hk
      go_wp2
      go_ret
      exact ⟨rfl, ⟨ps', HTD.out⟩, HCD.out⟩
set_option maxHeartbeats 2000000 in
theorem rflush_any (F B : Nat → Prop) (q m : Nat) (D : DK) (w : World) (h : RS F B w q D) (hD : Dok m D) (hm : m ≤ 900) :
    Calls Try.prog 28 #[.pointer (some ⟨q, 0, none⟩)] w fun e w' => e = .returned (.int .i64 (flushR D).1) ∧ RSn F B w w' q (flushR D).2 ∧ Chg F w w' := by
  obtain ⟨AK, cK, AW, cW, f, c0, c1, c2, c3, c4, x2⟩ := h.cells
  have HS := hid (fun w' (hw : w = w') => And.intro (show RSn F B w w' q D from h.same (by rw [hw]; exact Below.refl _ _)) (show Chg F w w' by rw [← hw]; exact Chg.refl F w))
  by_cases hoff : D.off = true
  · have e : flushR D = (30, D) := by unfold flushR; rw [if_pos hoff]
    rw [e]
    rw [hoff] at c3
    clear h hD c0 c1 c2 c4 x2 e hoff
    go_enter Try.func28, Try.ntmps28
    go_wp2
    go_ret
    exact ⟨rfl, HS.out _ rfl⟩
  · have hoff' : D.off = false := by simpa using hoff
    rw [hoff'] at c3
    obtain ⟨AK, cK, AW, cW, ps, ws, f, hT, hf, h1, h2⟩ := h
    obtain ⟨K, W, fu, off, li⟩ := D
    dsimp only at hT hf hoff' hD
    subst hoff'
    by_cases hfu : fu = 0
    · have e : flushR ⟨K, W, fu, false, li⟩ = (30, burnD ⟨K, W, fu, false, li⟩) := by unfold flushR; rw [if_neg (by simp), if_pos hfu]
      rw [e]
      have eo : (burnD ⟨K, W, fu, false, li⟩).off = true := (burn_off _ rfl).2 hfu
      have HB := rburn_any hT (hf rfl) hD.f0 hD.f1
      have HE := hid eo
      rw [eo] at HB
      have H1 := hid h1
      clear e eo h1 h2 hD hf hT c0 c1 c2 c4 x2 hoff hfu HS
      go_enter Try.func28, Try.ntmps28
      go_wp2_with (go_at_call 38; refine HB.mono ?_; rintro e w3 ⟨rfl, ⟨f', hT3, hf3⟩, hC3⟩)
      go_ret
      refine ⟨rfl, RSn.mk' (AK := AK) (cK := cK) (AW := AW) (cW := cW) (ps := ps) (ws := ws) (f := f') (B' := B) ?_ (fun e => by rw [HE.out] at e; cases e) (fun b hb => .inl (H1.out b hb)) (fun b hb => .inl hb), hC3.sub (fun b _ hb => H1.out b (.inl hb))⟩
      rw [burnD_K, burnD_W, burnD_li, HE.out]
      exact hT3
    · have e : flushR ⟨K, W, fu, false, li⟩ = (0, { burnD ⟨K, W, fu, false, li⟩ with K := pres K W, W := [] }) := by unfold flushR; rw [if_neg (by simp), if_neg hfu]
      rw [e]
      have eo : (burnD ⟨K, W, fu, false, li⟩).off = false := by
        unfold burnD
        rw [if_neg hfu]
        split <;> rfl
      refine (rflush_core B q K.length AK cK AW cW ps ws K W f fu li _ w hT (hid (hf rfl)) (hid hD.f0) (hid hD.f1) (Nat.le_trans hD.w1 hm) (hid eo) (hid rfl)).mono ?_
      rintro e w' ⟨he, ⟨ps', hT'⟩, hC⟩
      refine ⟨he, RSn.mk' (AK := AK) (cK := cK) (AW := none) (cW := 0) (ps := ps') (ws := []) (f := (burnD ⟨K, W, fu, false, li⟩).fu) (B' := B) ?_ (fun _ => rfl) (fun b hb => .inl (h1 b ?_)) (fun b hb => .inl hb), hC.sub (fun b _ hb => h1 b hb)⟩
      · show RT B w' q (pres K W).length AK cK none 0 ps' [] (pres K W) [] _ (burnD ⟨K, W, fu, false, li⟩).off (burnD ⟨K, W, fu, false, li⟩).li
        rw [pres_length, eo, burnD_li]
        exact hT'
      · rcases hb with h | h | h
        · exact .inl h
        · exact .inr (.inl h)
        · simp [Value.ownBlock] at h
end Go.Proofs.Ytdfalneiapeegaa
