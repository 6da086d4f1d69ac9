/- Texts of this proof, laid together: DFrom, TOne. -/
import Derived.Test.YtboofkmbjmnpeaaG18
import Derived.Test.YtboofkmbjmnpeaaG17
/- What is known from given terms of a store. -/
namespace Go.Proofs.Ytboofkmbjmnpeaa
open Go Go.RowKit Go.Maps
attribute [local go_sem] Oper.semAt_some

theorem KS.notfoot {w : World} {p cf b : Nat} {Af : Option Addr} {F : List Fa} {t : TypeId} {cs : List Value} (h : KS w p Af cf F) (hb : Blk w b t cs) (h1 : t ≠ 59) (h2 : t ≠ 82) (h3 : t ≠ 3) : ¬ kfoot p Af F b := by
  rintro (rfl | e | ⟨i, f, hf, e⟩)
  · have h4 : w.heap[b]? = _ := h.blk
    rw [show w.heap[b]? = _ from hb] at h4
    injection h4 with h4
    injection h4 with _ h5
    exact h1 h5
  · exact blk_ne hb h.rF h2 (((own00 _ _ _).trans e).symm)
  · exact blk_ne hb (h.rS i f hf) h3 e.symm
theorem row_cells {w : World} {e s n : Nat} {v : Value} {xs : List Value} (h : w.ownsRow 0 e s v n xs) {b : Nat} (hb : v.ownBlock = some b) : ∃ o : Obj, w.heap[b]? = some o ∧ o.isCells = true := by
  rcases h.2 with ⟨rfl, _⟩ | ⟨g, cap, cur, rfl, _, hg, _⟩
  · simp [Value.ownBlock] at hb
  · obtain rfl : g = b := by simpa [Value.ownBlock] using hb
    exact ⟨_, hg, rfl⟩
theorem KS.cellsAt {w : World} {p cf : Nat} {Af : Option Addr} {F : List Fa} (h : KS w p Af cf F) : ∀ b, kfoot p Af F b → ∃ o : Obj, w.heap[b]? = some o ∧ o.isCells = true := by
  rintro b (rfl | e | ⟨i, f, hf, e⟩)
  · exact ⟨_, h.blk, rfl⟩
  · exact row_cells h.rF ((own00 _ _ _).trans e)
  · exact row_cells (h.rS i f hf) e
/-- What holds between the rounds over the terms. -/
structure FR (L : List T3) (p pk b2 b6 m : Nat) (w W : World) : Prop where
  ks : ∃ A c F, KS W pk A c F ∧ FB L m F ∧ ∀ b, kfoot pk A F b → w.heap.size ≤ b
  x2 : Blk W b2 30 [.pointer (some ⟨p, 0, none⟩)]
  x6 : Blk W b6 25 [.pointer (some ⟨pk, 0, none⟩)]
  bel : Below w.heap.size w W
section
variable {L : List T3} {p pk b2 b6 m : Nat} {w W W' : World}
theorem FR.next (h : FR L p pk b2 b6 m w W) (hb : Below W.heap.size W W') : FR L p pk b2 b6 m w W' := by
  obtain ⟨A, c, F, hK, hF, hf⟩ := h.ks
  exact ⟨⟨A, c, F, hK.next hb, hF, hf⟩, h.x2.next hb, h.x6.next hb, h.bel.trans (Below.mono hb h.bel.size)⟩
theorem FR.own {B : Nat} (hB : w.heap.size ≤ B) : OwnFrom B (fun m W => FR L p pk b2 b6 m w W) := fun m X Y row h hg hr => by
  obtain ⟨A, c, F, hK, hF, hf⟩ := h.ks
  have hc : Chg (fun b => row = some b) X Y := (Chg.refl _ X).grown hg (fun g e => .inl e)
  have no : ∀ b, (∃ o : Obj, X.heap[b]? = some o ∧ o.isCells = true) → ¬ row = some b := fun b ⟨o, ho, h1⟩ e => by
    obtain ⟨_, o', ho', h2⟩ := hr b e
    rw [ho] at ho'; cases ho'; rw [h1] at h2; cases h2
  refine ⟨⟨A, c, F, hK.chg hc (fun b hb => no b (hK.cellsAt b hb)), hF, hf⟩, h.x2.chg hc (no _ ⟨_, h.x2, rfl⟩), h.x6.chg hc (no _ ⟨_, h.x6, rfl⟩), h.bel.grown hg h.bel.size (fun g e => Nat.le_trans hB (hr g e).1)⟩
end
/-- The variables of a round. -/
def AxN (aa : Act) (L : List T3) (s1 s2 s3 s4 m : Nat) (a' : Act) (W : World) : Prop :=
  ∃ b, Blk W b 50 (tc (L.getD m (0, 0, 0))) ∧
    a' = { tmps := (((aa.tmps.setIfInBounds s1 (.int .i64 (m : Int))).setIfInBounds s2 (tv (L.getD m (0, 0, 0)))).setIfInBounds s3 (.int .i64 (m : Int))).setIfInBounds s4 (.pointer (some ⟨b, 0, none⟩)), defers := [] }
theorem AxN.own {aa : Act} {L : List T3} {s1 s2 s3 s4 : Nat} {B : Nat} (m : Nat) (a' : Act) : OwnFrom B (fun (_ : Unit) W => AxN aa L s1 s2 s3 s4 m a' W) := fun _ X Y row ⟨b, hB, ha⟩ hg hr =>
  ⟨b, hB.grown hg (fun e => by
    obtain ⟨_, o, ho, hc⟩ := hr b e.symm
    rw [show X.heap[b]? = _ from hB] at ho
    cases ho
    cases hc), ha⟩
theorem from_end {R : Ending → World → Prop} {D : Nat} {w W : World} {ds : List Deferred} {tmps : Array Value} {v4 v5 : Value} (hK : W.heap[D]? = some (.deferred (some []))) (hds : ds = [{ target := .collected D, args := #[] }]) (h4 : tmps.getD 4 undef = v4) (h5 : tmps.getD 5 undef = v5) (hbel : Below w.heap.size w W) (hD : w.heap.size ≤ D)
    (hR : ∀ W', Below w.heap.size w W' → Chg (fun b => b = D) W W' → R (.returned (.tuple #[v4, v5])) W') : bodyPostM Fence.wide 5 Try.prog Try.f7 R .ret { tmps := tmps, defers := ds } W := by
  subst hds; subst h4; subst h5
  refine ⟨by simp, .inl ⟨_, _, rfl, run_takeDeferred hK, ?_⟩⟩
  exact ⟨_, results_tmp2 rfl _ _ _, hR _ (hbel.trans (belowK_b (w := w) (Nat.le_refl _) W D _ _ hD hK rfl rfl)) ((Chg.refl _ W).grown (grownBy_putObj' W D _) (fun g e => .inl (by injection e with e; exact e.symm)))⟩
set_option maxRecDepth 50000 in
set_option maxHeartbeats 4000000 in
theorem from_nil (B : Option Addr) (n c2 : Nat) (w : World) :
    Calls Try.prog 7 #[.pointer none, .slice B n c2] w fun e w' => e = .returned (.tuple #[.pointer none, .int .i64 1]) ∧ Below w.heap.size w w' := by
  obtain ⟨W0, hW0⟩ : ∃ W, w.alloc (.cells #[.pointer none] 30) = W := ⟨_, rfl⟩
  have hb0 : Below w.heap.size w W0 := by rw [← hW0]; exact below_new w _
  have hB2 : Blk W0 w.heap.size 30 [.pointer none] := by rw [← hW0]; exact Blk.new w 30 _
  have x2 := hB2.cell (i := 0) rfl
  have HW0 := hid hW0
  clear hW0 hB2
  refine (callsIn_wide (n := 5)).1 (callsIn_of_wp_marks Try.func7 rfl trivial ?_)
  simp only [Try.ntmps7, List.size_toArray, List.length_cons, List.length_nil, Nat.reduceAdd, Nat.reduceSub, Array.replicate_succ, Array.replicate_zero, List.push_toArray, List.append_toArray, List.nil_append, List.cons_append]
  refine wpIn_wide.2 ?_
  go_upto_region 1 with (fail)
  rw [HW0.out]
  go_wp2_with (go_at_call 24; refine (isStore_nil _).mono ?_; rintro e w1 ⟨rfl, hb1⟩)
  refine ⟨_, results_tmp2 rfl _ _ _, rfl, ?_⟩
  exact hb0.trans (Below.mono hb1 hb0.size)
/-- One round's end. -/
theorem FR.step {L : List T3} {p pk b2 b6 m : Nat} {w wr W W' : World} (hL : WF L) (h : FR L p pk b2 b6 m w W) {A : Option Addr} {c : Nat} {F : List Fa} (hK : KS W pk A c F) (hF : FB L m F) (hf : ∀ b, kfoot pk A F b → w.heap.size ≤ b) {t : T3} (ht : L[m]? = some t) (hW : Below W.heap.size W wr) (hQ : AddQ pk A F t (keyOf3 L t) (mkB t (cF F)) wr W') :
    FR L p pk b2 b6 (m + 1) w W' ∧ Chg (kfoot pk A F) W W' := by
  obtain ⟨F', hs, A', c', hK', hC', hf'⟩ := hQ
  rw [hF.len] at hs
  have hC : Chg (kfoot pk A F) W W' := (Chg.of hW _).trans hC' (fun _ _ e => e)
  refine ⟨⟨⟨A', c', F', hK', hF.step hL ht hs, fun b hb => ?_⟩, h.x2.chg hC (hK.notfoot h.x2 (by decide) (by decide) (by decide)), h.x6.chg hC (hK.notfoot h.x6 (by decide) (by decide) (by decide)), h.bel.trans (hC.below h.bel.size hf)⟩, hC⟩
  rcases hf' b hb with h1 | h1
  · exact hf b h1
  · exact Nat.le_trans h.bel.size (Nat.le_trans hW.size h1)
set_option maxRecDepth 50000 in
set_option maxHeartbeats 8000000 in
theorem from_any (Fp : Nat → Prop) (p : Nat) (L : List T3) (X : List (List Int)) (B : Option Addr) (n c2 : Nat) (gs : List Int) (w : World) (hL : WF L) (h : CS Fp w p L X) (hn : n = gs.length) (hB : Nums w .i64 B gs) (hL30 : L.length ≤ 30) (hgl : gs.length ≤ 200) :
    Calls Try.prog 7 #[.pointer (some ⟨p, 0, none⟩), .slice B n c2] w fun e w' => Below w.heap.size w w' ∧
      (((∀ x ∈ gs, 0 ≤ x ∧ x < L.length) ∧ ∃ pk, e = .returned (.tuple #[.pointer (some ⟨pk, 0, none⟩), .int .i64 0]) ∧ ∃ A c F, KR L (Gv gs) w' pk A c F ∧ ∀ b, kfoot pk A F b → w.heap.size ≤ b) ∨
       (¬ (∀ x ∈ gs, 0 ≤ x ∧ x < L.length) ∧ e = .returned (.tuple #[.pointer none, .int .i64 2]))) := by
  obtain ⟨W0, hW0⟩ : ∃ W, w.alloc (.cells #[.pointer (some ⟨p, 0, none⟩)] 30) = W := ⟨_, rfl⟩
  have hb0 : Below w.heap.size w W0 := by rw [← hW0]; exact below_new w _
  have hB2 : Blk W0 w.heap.size 30 [.pointer (some ⟨p, 0, none⟩)] := by rw [← hW0]; exact Blk.new w 30 _
  have x2 := hB2.cell (i := 0) rfl
  have HS := hid (isStore_yes Fp p L X W0 (h.next hb0))
  have HW0 := hid hW0
  clear hW0
  refine (callsIn_wide (n := 5)).1 (callsIn_of_wp_marks Try.func7 rfl trivial ?_)
  simp only [Try.ntmps7, List.size_toArray, List.length_cons, List.length_nil, Nat.reduceAdd, Nat.reduceSub, Array.replicate_succ, Array.replicate_zero, List.push_toArray, List.append_toArray, List.nil_append, List.cons_append]
  refine wpIn_wide.2 ?_
  go_upto_region 1 with (fail)
  rw [HW0.out]
  go_upto_region 3 with (go_at_call 24; refine HS.out.mono ?_; rintro e w1 ⟨rfl, hb1⟩)
  obtain ⟨W2, hW2⟩ : ∃ W, w1.alloc (.cells #[.bool true, .slice none 0 0] 59) = W := ⟨_, rfl⟩
  obtain ⟨W3, hW3⟩ : ∃ W, W2.alloc (.cells #[.pointer (some ⟨w1.heap.size, 0, none⟩)] 25) = W := ⟨_, rfl⟩
  obtain ⟨pk, b2, b6, hpk, hb2, hb6, hFR⟩ : ∃ pk b2 b6, w1.heap.size = pk ∧ w.heap.size = b2 ∧ W2.heap.size = b6 ∧ FR L p pk b2 b6 0 w W3 := by
    have hbW2 : Below w1.heap.size w1 W2 := by rw [← hW2]; exact below_new w1 _
    have hbW3 : Below W2.heap.size W2 W3 := by rw [← hW3]; exact below_new W2 _
    have hBk : Blk W2 w1.heap.size 59 [.bool true, .slice none 0 0] := by rw [← hW2]; exact Blk.new w1 59 _
    have hB6 : Blk W3 W2.heap.size 25 [.pointer (some ⟨w1.heap.size, 0, none⟩)] := by rw [← hW3]; exact Blk.new W2 25 _
    have hb03 : Below W0.heap.size W0 W3 := (hb1.trans (Below.mono hbW2 hb1.size)).trans (Below.mono hbW3 (Nat.le_trans hb1.size hbW2.size))
    refine ⟨_, _, _, rfl, rfl, rfl, ⟨none, 0, [], ⟨hBk.next hbW3, World.ownsRow_nil _ _ _ _, fun i f hf => by simp at hf, fun i j f g b hf => by simp at hf⟩, FB.zero L, fun b hb => ?_⟩, hB2.next hb03, hB6, hb0.trans (Below.mono hb03 hb0.size)⟩
    rcases hb with h1 | h1 | ⟨i, f, hf, _⟩
    · rw [h1]; exact Nat.le_trans hb0.size hb1.size
    · simp [fblk, Value.ownBlock] at h1
    · simp at hf
  have HFR := hid hFR
  have x2' := hFR.x2.cell (i := 0) rfl
  have hCS3 := h.next hFR.bel
  obtain ⟨AT, cT, _, _, c0, c1, _, hAT, _, _⟩ := hCS3.cells
  have hATb : ∀ b, AT.map (·.block) = some b → b < w.heap.size := fun b e => by
    obtain ⟨s, DN, DI, hT, _⟩ := h
    have c1' : w.cell? ⟨p, 1, none⟩ = some (.slice s.AT L.length s.cT) := hT.blk.cell (i := 1) rfl
    have c2' := (hFR.bel.cell (p := ⟨p, 1, none⟩) hT.blk.lt).trans c1'
    rw [c1] at c2'
    injection c2' with c2'
    injection c2' with e1 _ _
    subst e1
    refine rowlt hT.rT b ?_
    unfold Lay.vT
    cases hA : s.AT with
    | none => rw [hA] at e; cases e
    | some a => rw [hA] at e; exact e
  have HH := hid (And.intro h (And.intro hn (And.intro hB hL)))
  clear hFR hb0 hB2 x2 HS hb1 hCS3 h hn hB hL
  rw [hpk] at hW3
  go_upto_region 4 with (fail)
  try rw [hW3]
  rw [hb2]
  clear hW2 hW3 hpk hb6
  have HB2 := hid hb2
  clear hb2
  refine (wpIn_wide (n := 5)).1 ?_
  gi_wp2_with (refine ⟨trivial, ?_⟩; gi_at_call 25; refine (callsIn_wide.2 (all_any p L.length cT AT _ c0 c1)).mono ?_; rintro e wc ⟨rfl, hBx, hbc⟩)
  refine (wpIn_wide (n := 5)).1 ?_
  gi_step
  refine withAct fun aa haa => ?_
  obtain ⟨bx, hbx⟩ : ∃ t, W3.heap.size = t := ⟨_, rfl⟩
  have hL40 : L.length ≤ 40 := by omega
  have hAc := tcells_of (hAT.below hbc)
  have hbxc := hBx.cell (i := 0) rfl
  rw [hbx] at haa hbxc
  have HFR2 := hid (HFR.out.next hbc)
  have hwc : w.heap.size ≤ wc.heap.size := HFR2.out.bel.size
  have HAT := hid hATb
  clear HFR x2' c0 c1 hAT hBx hbc hbx hATb HW0
  refine range_inorder (n := 5) (by omega) (gf := 40) (lb := #[.pointer (some ⟨bx, 0, none⟩)]) (by rw [haa]; rfl) (enters_of Try.func40 (by kernel_rfl) rfl)
    L.length (encN L) (fun _ _ => rfl) (KpG (AT.map (·.block))) (fun _ _ _ h k => KpG.t h k) (fun W l o' hl => KpG.b (n := w.heap.size) HAT.out W l o' o' (Nat.le_trans hwc hl))
    (fun l J W hW hJ hY h0 => callsIn_wide.2 (allO_in 4 (by omega) l bx cT AT L J W hL40 hJ hY (cellB hbxc hW) (hAc.next hW) h0))
    (fun m W => FR L p pk b2 b6 m w W) (FR.own hwc) HFR2.out (AxN aa L 20 21 7 8) (fun m a' => AxN.own m a') ?_ ?_ ?_
  · intro l m W K hm hI hK
    obtain ⟨t, ht⟩ : ∃ t, L.getD m (0, 0, 0) = t := ⟨_, rfl⟩
    obtain ⟨W7, hW7, y0, y1, y2, hb7, hB7⟩ := term_world t W
    have HW7 := hid hW7
    have HK := hid hK
    have HX : Hid (∀ a', a' = { tmps := (((aa.tmps.setIfInBounds 20 (.int .i64 (m : Int))).setIfInBounds 21 (tv t)).setIfInBounds 7 (.int .i64 (m : Int))).setIfInBounds 8 (.pointer (some ⟨W.heap.size, 0, none⟩)), defers := [] } → K a' W7) := hid fun a' ha => hK _ _ (keeps_chg (Chg.of hb7 (fun _ => False)) (fun _ e => e.elim)) (fun b e => hb7.block b (by have := HAT.out b e; have := hI.bel.size; omega)) (hI.next hb7) (by unfold AxN; rw [ht]; exact ⟨_, hB7, ha⟩)
    clear hW7 hB7 HK hK
    subst haa
    unfold encN
    rw [ht]
    unfold tv
    clear ht
    gi_upto_region 6 with (fail)
    gi_wp2
    rw [HW7.out]
    exact HX.out _ rfl
  · rintro l m a' W hl hm hI ⟨b, hBk, rfl⟩
    subst haa
    simp only [List.setIfInBounds_toArray, List.set_cons_succ, List.set_cons_zero]
    obtain ⟨A, c, F, hK, hF, hf⟩ := hI.ks
    have ht : L[m]? = some L[m] := by simp [hm]
    obtain ⟨t, hte⟩ : ∃ t, L[m] = t := ⟨_, rfl⟩
    have hg : L.getD m (0, 0, 0) = t := by simp [hm, hte]
    rw [hte] at ht
    rw [hg] at hBk ⊢
    have hm0 : (m : Nat) ≤ L.length := by omega
    obtain ⟨h, hn, hB, hL⟩ := HH.out
    have HO : Hid (Calls Try.prog 20 #[.pointer (some ⟨p, 0, none⟩), .int .i64 m] W fun e w' => (∃ y z, e = .returned (.tuple #[.int .i64 (keyOf3 L t), .int .i64 y, .bool z])) ∧ Below W.heap.size W w') := hid ((opens_key Fp p L X m t W (h.next hI.bel) hL ht).mono (by
      rintro e w' ⟨⟨y, z, rfl, _⟩, hb⟩
      exact ⟨⟨y, z, rfl⟩, hb⟩))
    have HA : Hid (∀ wr, Below W.heap.size W wr → Calls Try.prog 26 #[.pointer (some ⟨pk, 0, none⟩), tv t, .int .i64 (keyOf3 L t)] wr fun e w' => (∃ v, e = .returned v) ∧ FR L p pk b2 b6 (m + 1) w w' ∧ Chg (kfoot pk A F) W w') := hid fun wr hb => (kadd_any pk A c F t (keyOf3 L t) (mkB t (cF F)) wr (hK.next hb) (wf_fits hL ht (by rw [hF.len]; exact Nat.le_refl _)) (by rw [hF.len]; omega) rfl (fun i f hi => by have := (hF.sv i f hi).2; omega) (fun h4 => by
        have := (wf_refs hL ht).2 (by simp [isTwo, h4])
        rw [hF.len]; omega)).mono (by
      rintro e w' ⟨hv, hQ⟩
      obtain ⟨r1, r2⟩ := hI.step hL hK hF hf ht hb hQ
      exact ⟨hv, r1, r2⟩)
    have HE : Hid (∀ W', FR L p pk b2 b6 (m + 1) w W' → Chg (kfoot pk A F) W W' → KeepsFrom wc.heap.size W W' ∧ KpG (AT.map (·.block)) W W' ∧ FR L p pk b2 b6 (m + 1) w W') := hid fun W' hR hC => by
      refine ⟨⟨hC.size, fun k o hk ho hc => (hC.block k (Array.getElem?_eq_some_iff.1 ho).1 (fun e => ?_)).trans ho⟩, fun b e => hC.block b ?_ (fun e2 => ?_), hR⟩
      · obtain ⟨o', ho', hc'⟩ := hK.cellsAt k e
        rw [ho] at ho'; cases ho'; rw [hc] at hc'; cases hc'
      · have := HAT.out b e; have := hI.bel.size; omega
      · have := HAT.out b e; have := hf b e2; omega
    have x2 := hI.x2.cell (i := 0) rfl
    have x6 := hI.x6.cell (i := 0) rfl
    have y0 := hBk.cell (i := 0) rfl
    have y1 := hBk.cell (i := 1) rfl
    have y2 := hBk.cell (i := 2) rfl
    have hX6 := hI.x6
    have hdep : 1 ≤ 5 - 1 - 1 := by decide
    unfold tv at HA ⊢
    clear hI hK hF hf ht hte hg h hn hB hL
    gi_wp2_with (first
      | (refine ⟨trivial, ?_⟩; gi_at_call 20; refine (CallsIn.inRound l (callsIn_wide.2 HO.out)).mono ?_; rintro e wr ⟨⟨y, z, rfl⟩, hb⟩; have x6' := cellB x6 hb; have y0' := cellB y0 hb; have y1' := cellB y1 hb; have y2' := cellB y2 hb)
      | (refine ⟨trivial, ?_⟩; gi_at_call 26; refine (CallsIn.inRound l (callsIn_wide.2 (HA.out _ hb))).mono ?_; rintro e w5 ⟨⟨v, rfl⟩, hR5, hC5⟩))
    first | exact HE.out _ hR5 hC5 | (have h9 := HE.out _ hR5 hC5; exact ⟨h9.1, h9.2.1⟩)
  · intro D W hD hI hK
    subst haa
    dsimp only
    obtain ⟨h, hn, hB, hL⟩ := HH.out
    obtain ⟨A, c, F, hKS, hF, hf⟩ := hI.ks
    obtain ⟨hok, hleast⟩ := hF.ok hL (by omega)
    have hKR : KR L (fun _ => False) W pk A c F := ⟨hok, hleast, hKS⟩
    have hBW := hB.below hI.bel
    have hDlt := (Array.getElem?_eq_some_iff.1 hK).1
    have x6 := hI.x6.cell (i := 0) rfl
    have hX6 := hI.x6
    have hbel := hI.bel
    have hnk : ∀ {W1 : World} {F1 : List Fa}, KS W1 pk A c F1 → W1.heap[D]? = some (.deferred (some [])) → ¬ kfoot pk A F1 D := fun h1 h2 e => by
      obtain ⟨o, ho, hc⟩ := h1.cellsAt D e
      rw [h2] at ho; cases ho; cases hc
    have hD2 : w.heap.size ≤ D := Nat.le_trans hwc hD
    by_cases hr : ∀ x ∈ gs, 0 ≤ x ∧ x < L.length
    · have HM : Hid (Calls Try.prog 19 #[.pointer (some ⟨pk, 0, none⟩), .slice B gs.length c2] W fun e w' => e = .returned (.int .i64 0) ∧ w'.heap[D]? = some (.deferred (some [])) ∧ Blk w' b6 25 [.pointer (some ⟨pk, 0, none⟩)] ∧ Below w.heap.size w w' ∧ ∃ F2, KR L (Gv gs) w' pk A c F2 ∧ ∀ b, kfoot pk A F2 b → w.heap.size ≤ b) := hid ((more_yes L (fun _ => False) pk A c F B c2 gs.length gs W hL hKR rfl hBW (fun hp g o sp e k => by
          obtain ⟨b, off, e2, hlt, _⟩ := hB hp
          rw [e] at e2; injection e2 with e2; injection e2 with e2
          have := hf g (.inr (.inl k)); omega) hr hgl (by omega)).mono (by
        rintro e w' ⟨rfl, F2, hK2, ⟨n2, hA2⟩, hC2⟩
        have hDk : ¬ (fblk A D ∨ W.heap.size ≤ D) := by
          rintro (k | k)
          · exact hnk hKS hK (.inr (.inl k))
          · omega
        have hnf := hKS.notfoot hX6 (by decide) (by decide) (by decide)
        refine ⟨rfl, (hC2.block D hDlt hDk).trans hK, hX6.chg hC2 (fun k => ?_), hbel.trans (hC2.below hbel.size (fun b k => ?_)), F2, ⟨hK2.ok, hK2.least.same (fun i => ⟨fun k => k.resolve_left id, .inr⟩), hK2.ks⟩, fun b hb => hf b ((kfoot_adv hA2 b).1 hb)⟩
        · rcases k with k | k
          · exact hnf (.inr (.inl k))
          · have := hX6.lt; omega
        · rcases k with k | k
          · exact hf b (.inr (.inl k))
          · exact Nat.le_trans hbel.size k))
      have HP : Hid (∀ W1 F2, W1.heap[D]? = some (.deferred (some [])) → KR L (Gv gs) W1 pk A c F2 → (∀ b, kfoot pk A F2 b → w.heap.size ≤ b) → ∀ W', Below w.heap.size w W' → Chg (fun b => b = D) W1 W' → Below w.heap.size w W' ∧
          (((∀ x ∈ gs, 0 ≤ x ∧ x < L.length) ∧ ∃ pk', (.returned (.tuple #[.pointer (some ⟨pk, 0, none⟩), .int .i64 0]) : Ending) = .returned (.tuple #[.pointer (some ⟨pk', 0, none⟩), .int .i64 0]) ∧ ∃ A c F, KR L (Gv gs) W' pk' A c F ∧ ∀ b, kfoot pk' A F b → w.heap.size ≤ b) ∨
           (¬ (∀ x ∈ gs, 0 ≤ x ∧ x < L.length) ∧ (.returned (.tuple #[.pointer (some ⟨pk, 0, none⟩), .int .i64 0]) : Ending) = .returned (.tuple #[.pointer none, .int .i64 2])))) := hid fun W1 F2 hk1 hK2 hf2 W' hb hC => ⟨hb, .inl ⟨hr, pk, rfl, A, c, F2, ⟨hK2.ok, hK2.least, hK2.ks.chg hC (fun b hb2 e => hnk hK2.ks hk1 (e ▸ hb2))⟩, hf2⟩⟩
      clear hr hKR hBW hleast hok hKS hF hf hI hK hn h hB hL hnk HH
      go_upto_region 10 with (go_at_call 19; refine HM.out.mono ?_; rintro e W1 ⟨rfl, hk1, hx1, hb1, F2, hK2, hf2⟩)
      have x6' := hx1.cell (i := 0) rfl
      go_wp2
      exact from_end hk1 rfl rfl rfl hb1 hD2 (HP.out W1 F2 hk1 hK2 hf2)
    · have HM := hid (more_no pk A c F B c2 gs.length gs W hKS rfl hBW (by rw [hok.len]; exact hr) hgl)
      have HR := hid hr
      clear hr hKR hBW hleast hok hKS hF hf hI hn h hB hL hnk HH
      go_wp2_with (go_at_call 19; refine HM.out.mono ?_; rintro e W1 ⟨rfl, rfl⟩)
      exact from_end hK rfl rfl rfl hbel hD2 (fun W' hb _ => ⟨hb, .inr ⟨HR.out, rfl⟩⟩)
end Go.Proofs.Ytboofkmbjmnpeaa

/- What is done to both stores: both say the same. -/
namespace Go.Proofs.Ytboofkmbjmnpeaa
open Go Go.RowKit Go.Maps
/-- What one leaves. -/
def OneQ (B : Nat) (okb : Nat → Prop) (p q : Nat) (L : List T3) (X : List (List Int)) (w : World) (e : Ending) (w' : World) : Prop :=
  e = .returned (.bool true) ∧ ∃ L' X', L'.length ≤ L.length + 1 ∧ X'.length ≤ X.length + 1 ∧ Both B okb w' p q L' X' ∧ Chg okb w w'
section
variable {B : Nat} {okb : Nat → Prop} {p q : Nat} {L : List T3} {X : List (List Int)} {w : World}
end
end Go.Proofs.Ytboofkmbjmnpeaa
