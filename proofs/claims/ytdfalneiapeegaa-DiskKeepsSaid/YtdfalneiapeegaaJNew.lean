/- A new disk, by the document. -/
import Derived.Test.YtdfalneiapeegaaJCrash
namespace Go.Proofs.Ytdfalneiapeegaa
open Go Go.RowKit Go.Maps

theorem infSl : (Try.prog.info? 32).map (fun i => (i.zero, i.size)) = some (some (.slice none 0 0), 1) := by kernel_rfl
theorem infSlb : (Try.prog.info? 32).map (fun i => (i.zero, i.size, i.bytes)) = some (some (.slice none 0 0), 1, 24) := by kernel_rfl
section
variable {ops : Array Oper} {md : Region.Mode} {W : World} {a0 : Act} {n : Nat} {al : Nat → Bool} {S : Nat → Value → World → Prop} {Q : Exit → Act → World → Prop} {i : Nat} {o : Oper}
theorem step_mk64 (hg : GuardOn ops md n S i o) (ho : o.op = .makeSlice 32 (.const (.int .i64 64)) (.const (.int .i64 64))) (hS : S i = IsTx W.heap.size Z64) : StepOk Try.prog ops md W a0 n al S Q i o := fun a w hw hf' hd => by
  rw [if_pos (hg.wanted hd)]
  have h1 : a.eval (.const (.int .i64 64)) = .int .i64 64 := rfl
  unfold Oper.wp execOp
  simp only [ho, h1, Sem.run_bind, make64 w, Result.andThen_ok, Sem.run_pure]
  refine ⟨_, rfl, ?_, below_new w _, fun _ => ⟨_, rfl, Nat.le_refl _, by simp⟩⟩
  rw [hS]
  exact ⟨_, _, rfl, Below.size hw, by simp, Rw.new w _ _⟩
theorem step_bslS {P : Program} (hg : GuardOn ops md n S i o) {T e : TypeId} {s : Nat} {z : Value} {x : Operand} {xs : List Int} (ho : o.op = .buildSlice T 1 #[(0, x)]) (hu : P.underlying T = some (.slice e)) (hI : (P.info? e).map (fun i => (i.zero, i.size)) = some (some z, s)) (hsmall : ¬ 1 * s > 2 ^ 24) (hpos : ¬ 1 * s = 0)
    (hf : ∀ v : Option Addr × Nat, Instr.fill (fun i => some (i * s, s)) ((Array.range (1 * s)).map (z.cells[· % z.cells.size]!)) [(0, .slice v.1 64 v.2)] = some #[.slice v.1 64 v.2]) (hS : S i = IsRow1 W.heap.size [] xs)
    (hx : KnowsW ops md W a0 n S i x (IsTx W.heap.size xs)) : StepOk P ops md W a0 n al S Q i o := fun a w hw hf' hd => by
  rw [if_pos (hg.wanted hd)]
  obtain ⟨b, c, e1, h1, h2, h3⟩ := hx a w hw hf' hd
  cases hq : P.info? e with
  | none => rw [hq] at hI; simp at hI
  | some ie =>
    rw [hq] at hI
    simp only [Option.map_some, Option.some.injEq, Prod.mk.injEq] at hI
    obtain ⟨hz, rfl⟩ := hI
    refine wp_buildSlice T e 1 #[(0, x)] ho #[.slice (some ⟨b, 0, none⟩) 64 c] ie z hu hq hz hsmall hpos (by simp only [List.map_toArray, List.map_cons, List.map_nil, e1]; exact hf (_, _)) ?_
    have hR := Rw.new w [.slice (some ⟨b, 0, none⟩) 64 c] e
    refine ⟨_, rfl, ?_, below_new w _, fun _ => ⟨_, rfl, Nat.le_refl _, by simp⟩⟩
    rw [hS]
    exact ⟨w.heap.size, b, c, rfl, hR, h1, by simp; omega, h3.next (below_new w _)⟩
end
section
variable {B : Nat → Prop} {w w3 : World} {q n : Nat} {AK : Option Addr} {cK : Nat} {AW A' : Option Addr} {cW c' : Nat} {ps ws : List Value} {K : List (List Int)} {W : List (Nat × List Int)} {f : Int} {off : Bool} {li : Int} {s : List Int} {bb cb : Nat}
/-- One more sector is kept. -/
theorem RT.grow (h : RT B w q n AK cK AW cW ps ws K W f off li) (hs : s.length = 64) (hbb : ¬ footR q AK AW bb) (hbl : bb < w.heap.size) (hRb : Rw w bb 0 (ints .u8 s)) (hg : w.grownBy w3 (Value.slice AK n cK).ownBlock) (hr : w3.ownsRow 0 32 1 (.slice A' (n + 1) c') (n + 1) (ps ++ ([] ++ [.slice (some ⟨bb, 0, none⟩) 64 cb]))) (ho : (Value.slice A' (n + 1) c').ownBlock = (Value.slice AK n cK).ownBlock ∨ (Value.slice A' (n + 1) c').ownBlock = some w.heap.size) :
    RT (fun b => B b ∨ b = bb) (w3.setCell ⟨q, 0, none⟩ (.slice A' (n + 1) c')) q (n + 1) A' c' AW cW (ps ++ ([] ++ [.slice (some ⟨bb, 0, none⟩) 64 cb])) ws (K ++ [s]) W f off li ∧ Chg (footR q AK AW) w (w3.setCell ⟨q, 0, none⟩ (.slice A' (n + 1) c')) ∧ (∀ b, footR q A' AW b → footR q AK AW b ∨ b = w.heap.size) ∧ Blk w3 q 53 [.slice AK n cK, .slice AW W.length cW, .int .i64 f, .bool off, .int .i64 li] := by
  have hp3 := h.blk.grown hg (blk_ne h.blk h.rK (by decide))
  have rW3 := h.rW.kept hg (row_ne h.rW h.rK (by decide))
  have hC : Chg (footR q AK AW) w (w3.setCell ⟨q, 0, none⟩ (.slice A' (n + 1) c')) := ((Chg.refl _ w).grown hg (fun g e => .inl (.inr (.inl (by rw [← e]; exact (own00 _ _ _).symm))))).setCell (p := ⟨q, 0, none⟩) (.inl (.inl rfl)) _
  have hB : ∀ b, B b ∨ b = bb → (w3.setCell ⟨q, 0, none⟩ (.slice A' (n + 1) c')).heap[b]? = w.heap[b]? := fun b hb => by
    rcases hb with hb | rfl
    · exact hC.block b (h.dis b hb).2 (h.dis b hb).1
    · exact hC.block b hbl hbb
  have ho' : (Value.slice A' 0 0).ownBlock = (Value.slice AK 0 0).ownBlock ∨ (Value.slice A' 0 0).ownBlock = some w.heap.size := by
    rw [own00, own00 AK] at ho
    exact ho
  have hft : ∀ b, footR q A' AW b → footR q AK AW b ∨ b = w.heap.size := fun b hb => by
    rcases hb with h1 | h1 | h1
    · exact .inl (.inl h1)
    · rcases ho' with h2 | h2
      · exact .inl (.inr (.inl (h2.symm.trans h1)))
      · rw [h2] at h1; injection h1 with h1; exact .inr h1.symm
    · exact .inl (.inr (.inr h1))
  have hpl : ps.length = n := by have := h.rK.1; omega
  have hkl := h.nK
  refine ⟨⟨hp3.set 0 _, row_setC hr hp3 (by decide) 0 _, row_setC rW3 hp3 (by decide) 0 _, by simp [h.nK], fun t ht => ?_, fun x hx => ⟨Nat.lt_succ_of_lt (h.wW x hx).1, (h.wW x hx).2⟩, fun j t hj => ?_, (h.tW.more fun b hb => .inl hb).keep hB, fun b hb => ⟨fun hf => ?_, ?_⟩⟩, hC, hft, hp3⟩
  · rcases List.mem_append.1 ht with h1 | h1
    · exact h.sK t h1
    · simp at h1; rw [h1]; exact hs
  · by_cases hjl : j < n
    · rw [List.getElem?_append_left (by omega)] at hj
      obtain ⟨A, c, h1, h2⟩ := h.tK j t hj
      exact ⟨A, c, by rw [List.getElem?_append_left (by omega)]; exact h1, (h2.sub fun b hb => .inl hb).keep hB⟩
    · have hj0 : j = n := by have := (List.getElem?_eq_some_iff.1 hj).1; simp at this; omega
      subst hj0
      rw [List.getElem?_append_right (by omega), show j - K.length = 0 by omega] at hj
      simp at hj
      subst hj
      refine ⟨some ⟨bb, 0, none⟩, cb, ?_, ?_⟩
      · rw [List.getElem?_append_right (by omega), show j - ps.length = 0 by omega]; rfl
      · have h0 : NumsS (fun b => B b ∨ b = bb) w .u8 (some ⟨bb, 0, none⟩) s := fun hp => ⟨bb, 0, rfl, .inr rfl, fun i hi => (hRb i _ (by simp [ints, hi])).1⟩
        exact h0.keep hB
  · rcases hft b hf with h1 | h1
    · rcases hb with h2 | rfl
      · exact (h.dis b h2).1 h1
      · exact hbb h1
    · rcases hb with h2 | rfl
      · have := (h.dis b h2).2; omega
      · omega
  · rw [setCell_size]
    rcases hb with h2 | rfl
    · exact Nat.lt_of_lt_of_le (h.dis b h2).2 hg.size
    · exact Nat.lt_of_lt_of_le hbl hg.size
end
set_option maxHeartbeats 4000000 in
theorem rnew_any (n : Nat) (w : World) (hn : n ≤ 40) :
    Calls Try.prog 11 #[.int .i64 n] w fun e w' => e = .returned (.pointer (some ⟨w.heap.size, 0, none⟩)) ∧ (∃ F B, RS F B w' w.heap.size (newD n) ∧ (∀ b, F b → w.heap.size ≤ b ∧ b < w'.heap.size) ∧ (∀ b, B b → w.heap.size ≤ b ∧ b < w'.heap.size)) ∧ Below w.heap.size w w' := by
  have hq1 := Blk.new w 53 [.slice none 0 0, .slice none 0 0, .int .i64 (-1), .bool false, .int .i64 0]
  have hb1 := below_new w (.cells #[.slice none 0 0, .slice none 0 0, .int .i64 (-1), .bool false, .int .i64 0] 53)
  obtain ⟨W1, hW1⟩ : ∃ W1, w.alloc (.cells #[.slice none 0 0, .slice none 0 0, .int .i64 (-1), .bool false, .int .i64 0] 53) = W1 := ⟨_, rfl⟩
  rw [hW1] at hb1
  have hq2 : Blk W1 w.heap.size 53 [.slice none 0 0, .slice none 0 0, .int .i64 (-1), .bool false, .int .i64 0] := by rw [← hW1]; exact hq1
  have HT0 : Hid (RT (fun _ => False) W1 w.heap.size 0 none 0 none 0 [] [] [] [] (-1) false 0) := hid ⟨hq2, World.ownsRow_nil _ _ _ _, World.ownsRow_nil _ _ _ _, rfl, fun s hs => by simp at hs, Wok.nil _, fun j s hj => by simp at hj, fun j s hj => by simp at hj, fun b hb => hb.elim⟩
  have HW1 := hid hW1
  have HB1 := hid hb1
  clear hq1 hb1 hq2 hW1
  go_enter Try.func11, Try.ntmps11
  go_upto_region 3 with (fail)
  rw [HW1.out]
  clear HW1
  go_loopw [4] (fun v wr => ∃ k : Nat, k ≤ n ∧ v = .int .i64 k ∧ Hid (∃ AK cK ps B', RT B' wr w.heap.size k AK cK none 0 ps [] (List.replicate k Z64) [] (-1) false 0 ∧ (∀ b, B' b → w.heap.size ≤ b) ∧ (∀ b, footR w.heap.size AK none b → w.heap.size ≤ b)) ∧ Hid (Below w.heap.size w wr)) (fun v _ => n - (intOf v).toNat)
  case atStart => exact ⟨0, Nat.zero_le _, rfl, hid ⟨none, 0, [], _, HT0.out, fun b hb => hb.elim, fun b hb => by
    rcases hb with rfl | h | h
    · exact Nat.le_refl _
    · simp [Value.ownBlock] at h
    · simp [Value.ownBlock] at h⟩, HB1⟩
  case round =>
    clear HT0 HB1
    obtain ⟨k, hk, rfl, HT, HB⟩ := hrel
    obtain ⟨AK, cK, ps, B1, hT, hB1, hF1⟩ := HT.out
    by_cases hlt : k < n
    · have hkl : (k : Int) < n := by omega
      have HK := hid hlt
      have hB := HB.out
      clear HT HB hk hlt
      go_upto_region 5 with (fail)
      refine region_evt 8 7 23 [false, true, true, true, true, true, true, false] [Is (Value.pointer (some ⟨w.heap.size, 0, none⟩)), Is (Value.pointer (some ⟨w.heap.size, 0, none⟩)), Is (Value.pointer (some ⟨w.heap.size, 0, none⟩)), Is (Value.pointer (some ⟨w.heap.size, 0, none⟩)), Is (Value.slice AK k cK), IsTx wr.heap.size Z64, IsRow1 wr.heap.size [] Z64, (fun _ _ => True)] [12, 13, 14, 15, 16, 17, 18, 19] (fun w0 u w1 => ∃ b c, AppR 32 1 (.slice AK k cK) k ps ([] ++ [.slice (some ⟨b, 0, none⟩) 64 c]) w0 u w1 ∧ wr.heap.size ≤ b ∧ b < w0.heap.size ∧ Rw w0 b 0 (ints .u8 Z64)) (by kernel_rfl) (by kernel_rfl) (by kernel_rfl) (Nat.le_of_eq rfl) (grows_cons (Is.grows _) (grows_cons (Is.grows _) (grows_cons (Is.grows _) (grows_cons (Is.grows _) (grows_cons (Is.grows _) (grows_cons (IsTx.grows _ _) (grows_cons (IsRow1.grows _ _ _) (grows_cons (fun _ _ _ _ _ => trivial) grows_nil))))))))
        ⟨.inr (.inr ⟨rfl, pure_ex (Value.pointer (some ⟨w.heap.size, 0, none⟩)) rfl rfl (fun a w0 ww hw hf hd => by
       have h3 : a.eval (.tmp 3) = Value.pointer (some ⟨w.heap.size, 0, none⟩) := ((knows_out 3 (by kernel_rfl) rfl) : Knows _ _ _ _ _ _ 0 _ _) a w0 hw hf hd
       revert h3
       generalize a.eval = ev
       intro h3
       unfold execOp
       simp only [h3]
       go_simp)⟩),
         .inr (.inl ⟨rfl, step_ex _ rfl (.inl rfl) rfl (fun a ww hw hf hd => by
       have h3 : a.eval (.tmp 3) = Value.pointer (some ⟨w.heap.size, 0, none⟩) := ((knows_out 3 (by kernel_rfl) rfl) : Knows _ _ _ _ _ _ 1 _ _) a ww hw hf hd
       revert h3
       generalize a.eval = ev
       intro h3
       unfold execOp
       simp only [h3]
       go_simp)⟩),
         .inr (.inl ⟨rfl, step_ex _ rfl (.inl rfl) rfl (fun a ww hw hf hd => by
       have h13 : a.eval (.tmp 13) = Value.pointer (some ⟨w.heap.size, 0, none⟩) := ((knows_in 1 13 (by decide) (by kernel_rfl) rfl rfl) : Knows _ _ _ _ _ _ 2 _ _) a ww hw hf hd
       revert h13
       generalize a.eval = ev
       intro h13
       unfold execOp
       simp only [h13]
       go_simp)⟩),
         .inr (.inl ⟨rfl, step_ex _ rfl (.inl rfl) rfl (fun a ww hw hf hd => by
       have h14 : a.eval (.tmp 14) = Value.pointer (some ⟨w.heap.size, 0, none⟩) := ((knows_in 2 14 (by decide) (by kernel_rfl) rfl rfl) : Knows _ _ _ _ _ _ 3 _ _) a ww hw hf hd
       revert h14
       generalize a.eval = ev
       intro h14
       unfold execOp
       simp only [h14]
       go_simp)⟩),
         .inr (.inl ⟨rfl, step_ex _ rfl (.inl rfl) rfl (fun a ww hw hf hd => by
       have h15 : a.eval (.tmp 15) = Value.pointer (some ⟨w.heap.size, 0, none⟩) := ((knows_in 3 15 (by decide) (by kernel_rfl) rfl rfl) : Knows _ _ _ _ _ _ 4 _ _) a ww hw hf hd
       have f0 : ww.cell? ⟨w.heap.size, 0, none⟩ = some (Value.slice AK k cK) := (hT.next hw).blk.cell (i := 0) rfl
       revert h15
       generalize a.eval = ev
       intro h15
       unfold execOp
       simp only [h15]
       go_simp)⟩),
         .inr (.inl ⟨rfl, step_mk64 (.inl rfl) rfl rfl⟩),
         .inr (.inl ⟨rfl, step_bslS (.inl rfl) rfl Try.underlying40 infSl (by decide) (by decide) (fun v => by kernel_rfl) rfl (knowsW_in 5 17 (by decide) (by kernel_rfl) rfl rfl)⟩),
         .inl rfl, trivial⟩ _ rfl rfl ?_ ?_
      · intro a ww hw hf hd
        have h16 : a.eval (.tmp 16) = Value.slice AK k cK := hd 4 16 (by decide) (by kernel_rfl) rfl
        obtain ⟨g, b, c, hb1, hb2, hb3, hb4, hb5⟩ := hd 6 18 (by decide) (by kernel_rfl) rfl
        refine Oper.wp_mono ?_ (evt_app rfl rfl Try.underlying40 infSlb rfl (by decide) (by decide) (hT.next hw).rK h16 ⟨g, hb1, hb2⟩ rfl (by simp [Value.oneCell']) (by omega))
        rintro a' w' ⟨u, rfl, hu⟩
        exact ⟨u, rfl, b, c, hu, hb3, hb4, hb5⟩
      intro val W2 W3 hw hS hR
      have e12 : val 12 = Value.pointer (some ⟨w.heap.size, 0, none⟩) := hS 0 12 (by decide) (by decide) rfl
      have e13 : val 13 = Value.pointer (some ⟨w.heap.size, 0, none⟩) := hS 1 13 (by decide) (by decide) rfl
      have e14 : val 14 = Value.pointer (some ⟨w.heap.size, 0, none⟩) := hS 2 14 (by decide) (by decide) rfl
      have e15 : val 15 = Value.pointer (some ⟨w.heap.size, 0, none⟩) := hS 3 15 (by decide) (by decide) rfl
      have e16 : val 16 = Value.slice AK k cK := hS 4 16 (by decide) (by decide) rfl
      have hR := hR 19 rfl
      obtain ⟨bb, cb, ⟨A19, c19, e19, hl19, hm19, hr19, hg19, ho19⟩, hbb, hbb2, hRb⟩ := hR
      rw [e19] at hr19 ho19
      simp only [putVals, List.foldl_cons, List.foldl_nil, List.drop_succ_cons, List.drop_zero, Act.put, List.setIfInBounds_toArray, List.set_cons_succ, List.set_cons_zero, e12, e13, e14, e15, e16, e19]
      generalize val 17 = g17
      generalize val 18 = g18
      clear e12 e13 e14 e15 e16 e19 hS
      have hT2 := hT.next hw
      have hnf : ¬ footR w.heap.size AK none bb := fun e => by have := hT.lt bb e; omega
      obtain ⟨hT4, hC4, hf4, hp3⟩ := hT2.grow Z64_len hnf hbb2 hRb hg19 hr19 ho19
      have x0 := hp3.free 0
      have c0 := hp3.cell (i := 0) rfl
      have hz2 := hw.size
      have hz0 := hB.size
      have hB4 : Below w.heap.size w (W3.setCell ⟨w.heap.size, 0, none⟩ (.slice A19 (k + 1) c19)) := (hB.trans (Below.mono hw hB.size)).trans (hC4.below (by omega) hF1)
      rw [← List.replicate_succ'] at hT4
      have HT4 := hid hT4
      have HB4 := hid hB4
      have HF4 : Hid ((∀ b, B1 b ∨ b = bb → w.heap.size ≤ b) ∧ ∀ b, footR w.heap.size A19 none b → w.heap.size ≤ b) := hid ⟨fun b hb => by
        rcases hb with h | rfl
        · exact hB1 b h
        · omega, fun b hb => by
        rcases hf4 b hb with h | rfl
        · exact hF1 b h
        · omega⟩
      clear hT hT2 hnf hp3 hg19 hr19 ho19 hw hC4 hf4 hRb hbb hbb2 hT4 hB4 hB hB1 hF1 hz2 hz0
      go_wp2
      go_roundw
      case rel => exact ⟨k + 1, HK.out, by go_num, hid ⟨A19, c19, _, _, HT4.out, HF4.out.1, HF4.out.2⟩, HB4⟩
      case measure => have := HK.out; simp [intOf]; omega
    · have e : n = k := by omega
      subst e
      have hge : ¬ (n : Int) < n := by omega
      have HT' := hid (And.intro hT (And.intro hB1 hF1))
      clear hT hB1 hF1 HT hlt hk
      go_wp2
      go_ret
      obtain ⟨hT, hB1, hF1⟩ := HT'.out
      refine ⟨rfl, ⟨footR w.heap.size AK none, B1, ⟨AK, cK, none, 0, ps, [], -1, ?_, fun _ => rfl, fun _ h => h, fun b hb => (hT.dis b hb).1⟩, fun b hb => ⟨hF1 b hb, hT.lt b hb⟩, fun b hb => ⟨hB1 b hb, (hT.dis b hb).2⟩⟩, HB.out⟩
      show RT B1 wr w.heap.size (List.replicate n Z64).length AK cK none 0 ps [] (List.replicate n Z64) [] (-1) false 0
      rw [List.length_replicate]
      exact hT
end Go.Proofs.Ytdfalneiapeegaa
