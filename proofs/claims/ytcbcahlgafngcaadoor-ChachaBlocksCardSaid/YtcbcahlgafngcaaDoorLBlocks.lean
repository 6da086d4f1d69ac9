/- Any quarter round, any block, and the stream's first bytes are the document's. -/
import Derived.Test.YtcbcahlgafngcaaDoorLBack
import Derived.Test.YtcbcahlgafngcaaDoorLList
import Derived.Deep.Cut
import Derived.Sort.CutIn
namespace Go.Proofs.YtcbcahlgafngcaaDoor
open Go Go.RowKit
attribute [local go_sem] Oper.semAt_some

theorem rq0123 (g : Nat) (x0 x1 x2 x3 : Int) (w : World) (hw : Hid (Wds [x0, x1, x2, x3])) (hA : Arr w g 0 .u32 [x0, x1, x2, x3]) :
    Calls Tryd.prog 8 #[.slice (some ⟨g, 0, none⟩) 4 4, .int .i64 0, .int .i64 1, .int .i64 2, .int .i64 3] w fun e w' => e = .returned (.tuple #[]) ∧ Arr w' g 0 .u32 [qa x0 x1 x2 x3, qb x0 x1 x2 x3, qc x0 x1 x2 x3, qd x0 x1 x2 x3] ∧ Only g w w' :=
  rquarter_any g 4 4 0 1 2 3 [x0, x1, x2, x3] w (hid rfl) hw (by decide) (by decide) (by decide) (by decide) (by decide) (by decide) (by decide) (by decide) (by decide) (by decide) hA
theorem CaseAt.only {w w' : World} {b g : Nat} {key nonce : List Int} {c : Int} (h : CaseAt w b key nonce c) (ho : Only g w w') (hne : b ≠ g) : CaseAt w' b key nonce c :=
  ⟨h.k.only ho hne, h.n.only ho hne, by have := ho.block b h.lt hne; have h2 := h.c; unfold World.cell? at h2 ⊢; rw [this]; exact h2⟩
theorem case_world (key nonce : List Int) (c : Int) (us : List Int) (w : World) (hk : key.length = 32) (hn : nonce.length = 12) : ∃ W, W = (w.alloc (.cells (caseL key nonce c).toArray 26)).alloc (.cells (ints .u32 us).toArray 27) ∧ CaseAt W w.heap.size key nonce c ∧ Arr W (w.heap.size + 1) 0 .u32 us ∧ Below w.heap.size w W ∧ W.heap.size = w.heap.size + 2 := by
  have h1 := CaseAt.new w key nonce c hk hn
  have h2 := Arr.made (w.alloc (.cells (caseL key nonce c).toArray 26)) .u32 us 27
  rw [World.size_alloc] at h2
  exact ⟨_, rfl, h1.below ((Below.refl _ _).alloc (Nat.le_refl _) _), h2, ((Below.refl _ w).alloc (Nat.le_refl _) _).alloc (by simp) _, by simp⟩
theorem CaseAt.grew {w w' : World} {b : Nat} {key nonce : List Int} {c : Int} {v v' : Value} (h : CaseAt w b key nonce c) (hG : Grew w w' v v') (hne : v.ownBlock ≠ some b) : CaseAt w' b key nonce c :=
  ⟨h.k.grew hG hne h.lt, h.n.grew hG hne h.lt, (hG.cell (p := ⟨b, 44, none⟩) h.lt hne).trans h.c⟩
theorem app_numsm {w : World} {ops : Array Oper} {rest : List Oper} {o : Oper} {a : Act} {Q : Exit → Act → World → Prop} (hgd : o.guard = none) (s x : Operand)
    (ho : o.op = .call { callee := .builtin .append, args := #[s, x], argTypes := #[35, 35] }) (base : Nat) (A : Option Addr) (n c : Nat) (xs : List Int) (hs : a.eval s = .slice A n c)
    (hown : Owns w base 5 .u8 (.slice A n c) xs) (B : Option Addr) (d m : Nat) (ys : List Int) (hm : ys.length = m) (hx : a.eval x = .slice B m d) (hB : Nums w .u8 B ys) (h63 : (xs.length + ys.length) * 1 ≤ 140737488355328) (hbase : base ≤ w.heap.size)
    (h : ∀ A' n' c' w', Owns w' base 5 .u8 (.slice A' n' c') (xs ++ ys) → Grew w w' (.slice A n c) (.slice A' n' c') → wpList Tryd.prog ops Q rest (a.put o.dst (.slice A' n' c')) w') : wpList Tryd.prog ops Q (o :: rest) a w :=
  app_nums hgd s x 35 ho base 5 .u8 1 Tryd.underlying35 Tryd.info5 (by omega) A n c xs hs hown B d ys (by rw [hm]; exact hx) hB h63 hbase h
def WantIs (key nonce : List Int) (c M lo : Nat) (v : Value) (w : World) : Prop := ∃ A d, v = .slice A (64 * M) d ∧ 64 * M ≤ d ∧ NumsF lo w .u8 A (strm key nonce c M)
theorem want_of {key nonce : List Int} {c M base lo : Nat} {A : Option Addr} {n d : Nat} {l : List Int} {W : World} (h : Owns W base 5 .u8 (.slice A n d) l) (e : l = strm key nonce c M) (hl : l.length = 64 * M) (hlo : lo ≤ base) : WantIs key nonce c M lo (.slice A n d) W := by
  have hn := h.len
  have hd : n ≤ d := by
    obtain ⟨A', n', d', e1, _, h2⟩ := slice_of_row2 h
    injection e1 with e2 e3 e4
    rw [e3, e4]; exact h2
  rw [hl] at hn
  subst hn
  exact ⟨A, d, rfl, hd, by rw [← e]; exact (h.lower hlo).fresh⟩
theorem got_all {key nonce : List Int} {c M : Nat} {xs : List B8} (hk : key.length = 32) (hn : nonce.length = 12) (hc : c < 4294967296) (hM : min 2 (4294967296 - c) = M) (h : bvals xs = strm key nonce c (4294967296 - c)) (hl : xs.length < 100) : bvals xs = (strm key nonce c M).take (min (64 * M) 100) := by
  have h1 := congrArg List.length h
  rw [bvals_len, strm_length hk hn] at h1
  have e1 : 4294967296 - c = 1 := by omega
  rw [e1] at hM h
  subst hM
  rw [h]
  exact (List.take_of_length_le (by rw [strm_length hk hn]; decide)).symm
theorem got_some {key nonce : List Int} {c M : Nat} {xs : List B8} (hk : key.length = 32) (hn : nonce.length = 12) (hM : min 2 (4294967296 - c) = M) (h : bvals xs <+: strm key nonce c (4294967296 - c)) (hl : xs.length = 100) : bvals xs = (strm key nonce c M).take (min (64 * M) 100) := by
  have h1 := h.length_le
  rw [bvals_len, strm_length hk hn] at h1
  have e1 : min 2 (4294967296 - c) = 2 := by omega
  rw [e1] at hM
  subst hM
  have h2 := List.prefix_iff_eq_take.1 h
  rw [bvals_len, hl] at h2
  obtain ⟨t, ht⟩ := strm_pre key nonce c (m := 2) (n := 4294967296 - c) (by omega)
  rw [h2, ← ht, List.take_append_of_le_length (by rw [strm_length hk hn]; decide), show min (64 * 2) 100 = 100 by decide]
/-- What the loop's own cells hold. -/
def GotI (bt nb : Nat) (w : World) (pre : List B8) (W : World) : Prop :=
  (∃ v, Boxed W bt 35 v ∧ W.ownsRow nb 5 1 v (bvals pre).length ((bvals pre).map (Value.int .u8)) ∧ True) ∧ (Below bt w W ∧ nb ≤ W.heap.size)
theorem GotI.own (bt nb : Nat) (w : World) (hw : bt ≤ w.heap.size) (B : Nat) (hB : bt ≤ B) : OwnFrom B (GotI bt nb w) := by
  have h1 : Own (fun (s : List B8) (W : World) => ∃ v, Boxed W bt 35 v ∧ W.ownsRow nb 5 1 v (bvals s).length ((bvals s).map (Value.int .u8)) ∧ True) :=
    holdsRow_own nb bt 35 5 1 (fun s => (bvals s).length) (fun s => (bvals s).map (Value.int .u8)) (fun _ v => True)
  have h2 : OwnFrom B (fun (_ : List B8) W => nb ≤ W.heap.size) := Own.from (fun s A C row hs hg hr => Nat.le_trans hs hg.size) B
  exact OwnFrom.and (Own.from h1 B) (OwnFrom.and (ownFrom_below hw hB) h2)
theorem got_step {bt x5 B : Nat} {xs0 : List Int} {w W w9 w3 : World} {pre : List B8} {v v' : Value} (h5 : bt < x5)
    (hv : Boxed W bt 35 v) (hO : Owns W (x5 + 3) 5 .u8 v xs0) (hBW : Below bt w W) (hxs : x5 + 3 ≤ W.heap.size) (hw : Cl W w9)
    (hO3 : Owns w3 (x5 + 3) 5 .u8 v' (bvals pre)) (hG : Grew w9 w3 v v') :
    KeepsFrom B W (w3.setCell ⟨bt, 0, none⟩ v') ∧ KpS bt x5 (x5 + 3) W (w3.setCell ⟨bt, 0, none⟩ v') ∧ GotI bt (x5 + 3) w pre (w3.setCell ⟨bt, 0, none⟩ v') := by
  have hOw := hO.stay hw
  have hX3 := hide_box hv hO hw hG
  have hws := hw.size
  have hgz := hG.1.size
  have hcb : ∀ g, v.ownBlock = some g → ∀ o, w9.heap[g]? = some o → o.isCells = true := fun g e o ho => by
    rcases hOw.2 with ⟨rfl, _⟩ | ⟨g', cap, cur, rfl, _, hgb, _⟩
    · simp [Value.ownBlock] at e
    · obtain rfl : g' = g := by simpa [Value.ownBlock] using e
      rw [hgb] at ho; cases ho; rfl
  have hlo : ∀ g, v.ownBlock = some g → x5 + 3 ≤ g := fun g e => (hO.lt g e).1
  have hbW : Below bt W (w3.setCell ⟨bt, 0, none⟩ v') :=
    ((hw.mono (show bt ≤ W.heap.size by omega)).trans (hG.below (show bt ≤ w9.heap.size by omega) fun g e => by have := hlo g e; omega)).setCell (p := ⟨bt, 0, none⟩) (Nat.le_refl _) v'
  have hkeep : ∀ k, k < W.heap.size → k ≠ bt → v.ownBlock ≠ some k → (w3.setCell ⟨bt, 0, none⟩ v').heap[k]? = W.heap[k]? := fun k hk hkb hkg =>
    (Below.heap_setCell _ _ _ k hkb).trans ((hG.1.block k (by omega) (fun e => hkg e.symm)).trans (hw.block k hk))
  have hsz : (w3.setCell ⟨bt, 0, none⟩ v').heap.size = w3.heap.size := Array.size_modify
  refine ⟨⟨by rw [hsz]; omega, fun k o _ hk ho => ?_⟩, ⟨hbW, fun k h6 h7 => hkeep k (by omega) (by omega) (fun e => by have := hlo k e; omega)⟩, ⟨v', hX3.set v', hO3.kept (grownBy_setCell' w3 bt v') (.inr (hX3.not_row (by decide) hO3).symm), trivial⟩, hBW.trans hbW, by rw [hsz]; omega⟩
  have hkl := (Array.getElem?_eq_some_iff.1 hk).1
  rw [hkeep k hkl, hk]
  · rintro rfl
    rw [show W.heap[k]? = _ from hv] at hk; cases hk; cases ho
  · intro e
    have := hcb k e o ((hw.block k hkl).trans hk)
    rw [this] at ho; cases ho
set_option maxRecDepth 50000 in
set_option maxHeartbeats 400000 in
theorem blocks_any (w : World) (hT : Tabs w) (key nonce : List Int) (c : Int) (hk : key.length = 32) (hn : nonce.length = 12) (hkx : ∀ x ∈ key, (Lit.int .u8 x).wf = true) (hnx : ∀ x ∈ nonce, (Lit.int .u8 x).wf = true) (hcw : (Lit.int .u32 c).wf = true)
    (us : List Int) (hus : us.length = 4) (hux : ∀ x ∈ us, (Lit.int .u32 x).wf = true) :
    Calls Tryd.prog 3 #[.agg (caseL key nonce c).toArray, .agg (ints .u32 us).toArray] w fun e w' => e = .returned (.bool true) ∧ Below w.heap.size w w' := by
  obtain ⟨c, rfl, hc⟩ := word_of_wf hcw
  have hkb := byt_of_wf hkx
  have hnb := byt_of_wf hnx
  have HK := hid hk
  have HN := hid hn
  have HK4 : Hid (key.length = 4 * 8) := hid hk
  have HN4 : Hid (nonce.length = 4 * 3) := hid hn
  have HC : Hid (Wd (c : Int)) := hid ⟨by omega, by omega⟩
  obtain ⟨W1, hW1, hca, hAs, hB1, hz1⟩ := case_world key nonce (c : Int) us w hk hn
  obtain ⟨x0, x1, x2, x3, rfl⟩ : ∃ x0 x1 x2 x3, us = [x0, x1, x2, x3] := by
    match us, hus with
    | [a, b, c, d], _ => exact ⟨a, b, c, d, rfl⟩
  have wd_of : ∀ x ∈ [x0, x1, x2, x3], Wd x := fun x hx => by
    obtain ⟨m, rfl, hm⟩ := word_of_wf (hux x hx)
    exact ⟨by omega, by omega⟩
  have HWS : Hid (Wds [x0, x1, x2, x3]) := hid wd_of
  have H1 : Hid (Wd x1) := hid (wd_of x1 (by simp))
  have H3 : Hid (Wd x3) := hid (wd_of x3 (by simp))
  obtain ⟨y0, hy0⟩ : ∃ y, qa x0 x1 x2 x3 = y := ⟨_, rfl⟩
  obtain ⟨y1, hy1⟩ : ∃ y, qb x0 x1 x2 x3 = y := ⟨_, rfl⟩
  obtain ⟨y2, hy2⟩ : ∃ y, qc x0 x1 x2 x3 = y := ⟨_, rfl⟩
  obtain ⟨y3, hy3⟩ : ∃ y, qd x0 x1 x2 x3 = y := ⟨_, rfl⟩
  have hqr := fun (a : Int) w => quarter_any x0 x1 x2 x3 w H1 H3
  have hrq := fun w hA => rq0123 (w.heap.size) x0 x1 x2 x3 w HWS hA
  clear hrq hqr
  have hQ : ∀ W, Calls Tryd.prog 7 #[.int .u32 x0, .int .u32 x1, .int .u32 x2, .int .u32 x3] W fun e w' => e = .returned (.tuple #[.int .u32 y0, .int .u32 y1, .int .u32 y2, .int .u32 y3]) ∧ W = w' := fun W => by
    have := quarter_any x0 x1 x2 x3 W H1 H3
    rw [hy0, hy1, hy2, hy3] at this
    exact this
  have hR : ∀ g W, Arr W g 0 .u32 [x0, x1, x2, x3] → Calls Tryd.prog 8 #[.slice (some ⟨g, 0, none⟩) 4 4, .int .i64 0, .int .i64 1, .int .i64 2, .int .i64 3] W fun e w' => e = .returned (.tuple #[]) ∧ Arr w' g 0 .u32 [y0, y1, y2, y3] ∧ Only g W w' := fun g W hA => by
    have := rq0123 g x0 x1 x2 x3 W HWS hA
    rw [hy0, hy1, hy2, hy3] at this
    exact this
  have HQ := hid hQ
  have HR := hid hR
  clear hQ hR hy0 hy1 hy2 hy3 wd_of hux hus hkx hnx hcw hk hn
  obtain ⟨vs, hvs⟩ : ∃ v, (caseL key nonce (c : Int)).toArray = v := ⟨_, rfl⟩
  obtain ⟨ws, hws⟩ : ∃ v, (ints .u32 [x0, x1, x2, x3]).toArray = v := ⟨_, rfl⟩
  rw [hvs, hws] at hW1 ⊢
  have HW1 := hid hW1
  have HZ1 := hid hz1
  have hz0 : w.heap.size ≤ W1.heap.size := by omega
  have hT1 : Tabs W1 := hT.next hB1
  have i22 : (Tryd.prog.info? 22).map (·.size) = some (ints .u8 key).length := by rw [ints_length, HK.out]; exact info22
  have i23 : (Tryd.prog.info? 23).map (·.size) = some (ints .u8 nonce).length := by rw [ints_length, HN.out]; exact info23
  have hbs : w.heap.size + 1 < W1.heap.size := by omega
  clear hvs hws hW1 hz1
  obtain ⟨bl, hbl⟩ : ∃ l, blockL key nonce (c : Int) = l := ⟨_, rfl⟩
  have HBL := hid hbl
  have hb64 : Hid (bl.length = 64) := hid (by rw [← hbl]; exact blockL_length HK.out HN.out)
  clear hbl
  have i33a := szA info33 (il (k := .u8) hb64.out)
  have hmx : 64 ≤ maxLen := by decide
  refine (callsIn_wide (n := 5)).1 (callsIn_of_wp_marks Tryd.func3 rfl trivial ?_)
  simp only [Tryd.ntmps3, List.size_toArray, List.length_cons, List.length_nil, Nat.reduceAdd, Nat.reduceSub, Array.replicate_succ, Array.replicate_zero, List.push_toArray, List.append_toArray, List.nil_append, List.cons_append]
  refine wpIn_wide.2 ?_
  go_upto_region 8 with (first
    | (go_at_call 6; rw [← HW1.out]; refine (awake_any _ hT1).mono ?_; rintro e w2 ⟨rfl, hb2⟩
       have hc2 := hca.below hb2
       have hA2 := hAs.below hb2 hbs
       have a0 := hA2.at_ (i := 0) rfl
       have a1 := hA2.at_ (i := 1) rfl
       have a2 := hA2.at_ (i := 2) rfl
       have a3 := hA2.at_ (i := 3) rfl
       simp only [Nat.zero_add] at a0 a1 a2 a3)
    | (go_at_call 7; refine (HQ.out _).mono ?_; rintro e wq ⟨rfl, rfl⟩)
    | (go_at_call 8; refine (HR.out _ _ hA2).mono ?_; rintro e w3 ⟨rfl, hA3, ho3⟩
       clear a0 a1 a2 a3
       have hc3 := hc2.only ho3 (by omega)
       have a0 := hA3.at_ (i := 0) rfl
       have a1 := hA3.at_ (i := 1) rfl
       have a2 := hA3.at_ (i := 2) rfl
       have a3 := hA3.at_ (i := 3) rfl
       simp only [Nat.zero_add] at a0 a1 a2 a3
       have hB3 : Below w.heap.size w w3 := (hB1.trans (hb2.mono hz0)).trans (ho3.below (by omega) (by have := hb2.size; omega))
       have r3 := hc3.k.range
       have s3 := hc3.n.range
       have c3 := hc3.c))
  clear a0 a1 a2 a3 hA2 hA3 ho3
  go_upto_if 79 with (first
    | (with_reducible refine wpList_load_mid (op := ⟨some 60, .load 22 (.tmp 59), _, _, _, _⟩) rfl 22 (.tmp 59) rfl w.heap.size 0 rfl (ints .u8 key) _ r3 Tryd.underlying22 rfl i22 ?_)
    | (with_reducible refine wpList_load_mid (op := ⟨some 62, .load 23 (.tmp 61), _, _, _, _⟩) rfl 23 (.tmp 61) rfl w.heap.size 32 rfl (ints .u8 nonce) _ s3 Tryd.underlying23 rfl i23 ?_)
    | (go_at_call 9; refine (block_any key nonce (c : Int) _ (hT.next hB3) HK HN hkb hnb HC).mono ?_; rintro e w4 ⟨rfl, hb4⟩; rw [HBL.out]
       obtain ⟨W5, hW5, t6, hA5, hB5, hz5⟩ := got_world bl w4 hb64.out)
    | (with_reducible refine wpList_store_mid (op := ⟨none, .store 33 (.tmp 10) (.tmp 65), _, _, _, _⟩) rfl 33 (.tmp 10) (.tmp 65) rfl w4.heap.size 0 (ints .u8 bl).toArray rfl rfl t6 i33a (ints_all _ _) ?_
       rw [← hW5]
       have hc5 := (hc3.below hb4).below hB5
       have r5 := hc5.k.range
       have s5 := hc5.n.range
       have c5 := hc5.c
       have hl5 : w4.heap.size < W5.heap.size := by omega
       have hB35 : Below w3.heap.size w3 W5 := hb4.trans (hB5.mono hb4.size)
       clear hW5 t6 hz5 r3 s3 c3)
    | (with_reducible refine wpList_load_mid (op := ⟨some 67, .load 22 (.tmp 66), _, _, _, _⟩) rfl 22 (.tmp 66) rfl w.heap.size 0 rfl (ints .u8 key) _ r5 Tryd.underlying22 rfl i22 ?_)
    | (with_reducible refine wpList_load_mid (op := ⟨some 69, .load 23 (.tmp 68), _, _, _, _⟩) rfl 23 (.tmp 68) rfl w.heap.size 32 rfl (ints .u8 nonce) _ s5 Tryd.underlying23 rfl i23 ?_)
    | (go_at_call 10; refine (rblock_any key nonce (c : Int) _ HK4 HN4 hkb hnb HC).mono ?_; rintro e w6 ⟨AW, dW, rfl, hO6, hb6⟩; rw [HBL.out] at hO6
       have hA6 := (hA5.below hb6 hl5).nums
       have hc6 := hc5.below hb6)
    | (go_at_call 11; with_reducible refine (same_eq2 (some ⟨w4.heap.size, 0, none⟩) AW 64 dW 64 bl bl _ rfl hb64.out hmx hA6 hO6.nums).mono ?_; rintro e w7 ⟨rfl, hb7⟩
       have hO7 := hO6.stay hb7
       have hc7 := hc6.below hb7
       have c7 := hc7.c))
  have hB7 : Below w.heap.size w w7 := (hB3.trans (hB35.mono hB3.size)).trans ((hb6.mono (Nat.le_trans hB3.size hB35.size)).trans (hb7.mono (Nat.le_trans (Nat.le_trans hB3.size hB35.size) hb6.size)))
  have z5 : w.heap.size < W5.heap.size := Nat.lt_of_le_of_lt (Nat.le_trans hB3.size hb4.size) hl5
  have z57 : W5.heap.size ≤ w7.heap.size := Nat.le_trans hb6.size hb7.size
  have hlo7 := hO7.lower (Nat.le_of_lt z5)
  obtain ⟨M, hM⟩ : ∃ M, min 2 (4294967296 - c) = M := ⟨_, rfl⟩
  have HM := hid hM
  clear hM r5 s5 c5 hA5 hB5 hb4 hb6 hb7 hO6 hA6 hc6 hc3 hc2 hB35 hB3 hca hAs hB1
  go_cut [11] from 79 (fun v wc => WantIs key nonce c M w.heap.size v wc ∧ CaseAt wc w.heap.size key nonce c ∧ Below w.heap.size w wc)
  case first =>
    by_cases hcl : c < 4294967295
    · have e1 : decide ((c : Int) < 4294967295) = true := decide_eq_true (by omega)
      have hM2 : M = 2 := by rw [← HM.out]; omega
      have r7 := hc7.k.range
      have s7 := hc7.n.range
      have hwr : IntKind.u32.wrap ((c : Int) + 1) = (c : Int) + 1 := IntWalk.u32_in _ ⟨by omega, by omega⟩
      have hwr2 : ((c : Int) + 1) % 4294967296 = (c : Int) + 1 := by omega
      have HC1 : Hid (Wd ((c : Int) + 1)) := hid ⟨by omega, by omega⟩
      have hstr : Hid (strm key nonce c 2 = bl ++ blockL key nonce ((c : Int) + 1)) := hid (by
        show ([] ++ blockL key nonce ((c + 0 : Nat) : Int)) ++ blockL key nonce ((c + 1 : Nat) : Int) = _
        rw [List.nil_append, Nat.add_zero, HBL.out]; rfl)
      obtain ⟨b2, hb2l⟩ : ∃ l, blockL key nonce ((c : Int) + 1) = l := ⟨_, rfl⟩
      have HB2 := hid hb2l
      have hb264 : Hid (b2.length = 64) := hid (by rw [← hb2l]; exact blockL_length HK.out HN.out)
      have h63 : (bl.length + b2.length) * 1 ≤ 140737488355328 := by rw [hb64.out, hb264.out]; omega
      have H63 := hid h63
      clear hb2l h63 hcl
      rw [e1]
      go_wp2_with (first
        | (with_reducible refine wpList_load_mid (op := ⟨some 82, .load 22 (.tmp 81), _, _, _, _⟩) rfl 22 (.tmp 81) rfl w.heap.size 0 rfl (ints .u8 key) _ r7 Tryd.underlying22 rfl i22 ?_)
        | (with_reducible refine wpList_load_mid (op := ⟨some 84, .load 23 (.tmp 83), _, _, _, _⟩) rfl 23 (.tmp 83) rfl w.heap.size 32 rfl (ints .u8 nonce) _ s7 Tryd.underlying23 rfl i23 ?_)
        | (go_at_call 10; refine (rblock_any key nonce ((c : Int) + 1) _ HK4 HN4 hkb hnb HC1).mono ?_; rintro e w8 ⟨A2, d2, rfl, hO8, hb8⟩; rw [HB2.out] at hO8
           have hO78 := hO7.stay hb8
           have hN8 := hO8.nums
           have hc8 := hc7.below hb8
           have z58 : W5.heap.size ≤ w8.heap.size := Nat.le_trans z57 hb8.size
           have hB8 : Below w.heap.size w w8 := hB7.trans (hb8.mono hB7.size))
        | (with_reducible refine app_numsm rfl (.tmp 80) (.tmp 88) rfl W5.heap.size AW 64 dW bl rfl hO78 A2 d2 64 b2 hb264.out rfl hN8 H63.out z58 ?_
           intro A9 n9 c9 w9 hO9 hG9))
      go_meet
      case rel =>
        refine ⟨want_of hO9 (by rw [hM2, hstr.out, HB2.out]) (by rw [List.length_append, hb64.out, hb264.out, hM2]) (Nat.le_of_lt z5), hc8.grew hG9 (fun e => ?_), hB8.trans (hG9.below (Nat.le_trans (Nat.le_of_lt z5) z58) fun g e => ?_)⟩
        · have := (hO78.lt _ e).1; omega
        · have := (hO78.lt g e).1; omega
    · have e1 : decide ((c : Int) < 4294967295) = false := decide_eq_false (by omega)
      have hM1 : M = 1 := by rw [← HM.out]; omega
      rw [e1]
      go_wp2
      go_meet
      case rel =>
        exact ⟨want_of hO7 (by rw [hM1, ← HBL.out]; show _ = [] ++ blockL key nonce ((c + 0 : Nat) : Int); rw [List.nil_append, Nat.add_zero]) (by rw [hb64.out, hM1]) (Nat.le_of_lt z5), hc7, hB7⟩
  case rest =>
    clear hO7 hc7 c7 hlo7 hB7 z57 z5 hl5
    obtain ⟨⟨AW2, dW2, rfl, hmd, hNW⟩, hcc, hBc⟩ := hcut
    obtain ⟨mw, hmw⟩ : ∃ m, 64 * M = m := ⟨_, rfl⟩
    rw [hmw] at hmd ⊢
    have HMW := hid hmw
    have HMD := hid hmd
    clear hmw hmd
    go_upto_region 15 with (fail)
    obtain ⟨W4, hW4⟩ : ∃ W, wc.alloc (.cells #[.slice none 0 0] 35) = W := ⟨_, rfl⟩
    rw [hW4]
    have hX4 : Boxed W4 wc.heap.size 35 (.slice none 0 0) := by rw [← hW4]; exact Boxed.new wc 35 _
    have hB4 : Below wc.heap.size wc W4 := by rw [← hW4]; exact (Below.refl _ _).alloc (Nat.le_refl _) _
    have hz4 : W4.heap.size = wc.heap.size + 1 := by rw [← hW4]; simp
    have HZ4 := hid hz4
    clear hW4 hz4
    have hc4 := hcc.below hB4
    have r4 := hc4.k.range
    have s4 := hc4.n.range
    have c4 := hc4.c
    refine (wpIn_wide (n := 5)).1 ?_
    gi_wp2_with (first
      | (with_reducible refine wpListIn_load (op := ⟨some 91, .load 22 (.tmp 90), _, _, _, _⟩) rfl 22 (.tmp 90) rfl w.heap.size 0 rfl (ints .u8 key) _ r4 Tryd.underlying22 rfl i22 ?_)
      | (with_reducible refine wpListIn_load (op := ⟨some 93, .load 23 (.tmp 92), _, _, _, _⟩) rfl 23 (.tmp 92) rfl w.heap.size 32 rfl (ints .u8 nonce) _ s4 Tryd.underlying23 rfl i23 ?_)
      | (refine ⟨trivial, ?_⟩; gi_at_call 12; refine (callsIn_wide.2 (stream_any key nonce (c : Int) _)).mono ?_; rintro e w' ⟨rfl, rfl⟩))
    obtain ⟨W5, hW5, hK5, hN5, hc5, hB5, hz5⟩ := range_world key nonce (c : Int) W4
    rw [← hW5]
    clear hW5 r4 s4 c4
    have hz4 := HZ4.out
    obtain ⟨bt, hbt⟩ : ∃ x, wc.heap.size = x := ⟨_, rfl⟩
    obtain ⟨x5, hx5⟩ : ∃ x, W4.heap.size = x := ⟨_, rfl⟩
    have HBT := hid hbt
    have HX5 := hid hx5
    have hwb : w.heap.size < bt := by have := hcc.lt; omega
    have hw0 : w.heap.size ≤ bt := by omega
    rw [hbt] at hz4 hX4 hB4 ⊢
    rw [hx5] at hz4 hK5 hN5 hc5 hB5 hz5 ⊢
    have hbx : bt < x5 := by omega
    have hz5l : x5 + 3 ≤ W5.heap.size := by omega
    have hz5u : W5.heap.size ≤ x5 + 3 := by omega
    clear hz4 hz5 hbt hx5
    have hX5 : Boxed W5 bt 35 (.slice none 0 0) := (hB5.block bt hbx).trans hX4
    have hB5c : Below bt wc W5 := hB4.trans (hB5.mono (by omega))
    have hB5w : Below w.heap.size w W5 := hBc.trans (hB5c.mono hw0)
    have hLay : Lay bt x5 (x5 + 3) x5 (x5 + 1) key nonce W5 := ⟨hT.next hB5w, hK5, hN5⟩
    have hst := stream_stops 4 (by omega) bt x5 (x5 + 3) x5 (x5 + 1) (x5 + 1 + 1) c key nonce W5 HK HN hkb hnb hc (by omega) ⟨by omega, by omega⟩ ⟨by omega, by omega⟩ (by omega) hc5 hLay
    have hbl5 : bt ≤ W5.heap.size := by omega
    clear hK5 hN5 hc5 hB5 hLay hX4 hB4 hc4
    refine (wpIn_wide (n := 5)).1 ?_
    gi_step
    refine wpIn_rangeFunc_ownG (F := Fence.wide) rfl (by omega) (gf := 21) (lb := #[.pointer (some ⟨x5 + 1 + 1, 0, none⟩), .pointer (some ⟨x5, 0, none⟩), .pointer (some ⟨x5 + 1, 0, none⟩)]) rfl trivial (enters_of Tryd.func21 (by kernel_rfl) rfl)
      hst (fun h k => KpS.t h k) (KpS.b (by omega) (by omega)) (Below.refl _ _) (fun _ => rfl)
      (fun pre W => GotI bt (x5 + 3) wc pre W ∧ pre.length < 100)
      (fun cd pre W => GotI bt (x5 + 3) wc pre W ∧ (cd = .exit 0 ∧ pre.length = 100))
      (OwnFrom.and (GotI.own bt (x5 + 3) wc (Nat.le_of_eq HBT.out.symm) _ hbl5) (fun s A B row h _ _ => h)) (fun cd => OwnFrom.and (GotI.own bt (x5 + 3) wc (Nat.le_of_eq HBT.out.symm) _ hbl5) (fun s A B row h _ _ => h))
      ⟨⟨⟨_, hX5, Owns.none_ _ _ _ _, trivial⟩, hB5c, hz5l⟩, by simp⟩
      (fun x => { tmps := ((Value.agg vs) :: (Value.agg ws) :: (Value.pointer (some ⟨w.heap.size, 0, none⟩)) :: (Value.pointer (some ⟨w.heap.size + 1, 0, none⟩)) :: (Value.bool false) :: (Value.slice (some ⟨w.heap.size + 1, 0, none⟩) 4 4) :: (Value.int IntKind.u32 y0) :: (Value.int IntKind.u32 y1) :: (Value.int IntKind.u32 y2) :: (Value.int IntKind.u32 y3) :: (Value.pointer (some ⟨w4.heap.size, 0, none⟩)) :: (Value.slice AW2 mw dW2) :: (Value.pointer (some ⟨bt, 0, none⟩)) :: (Value.int .u8 x.1) :: (Value.bool true) :: (Value.bool false) :: (Value.slice (some ⟨w.heap.size + 1, 0, none⟩) 4 4) :: (Value.tuple #[Value.int IntKind.u32 y0, Value.int IntKind.u32 y1, Value.int IntKind.u32 y2, Value.int IntKind.u32 y3]) :: (Value.pointer (some ⟨w.heap.size + 1, 0, none⟩)) :: (Value.int IntKind.u32 x0) :: (Value.pointer (some ⟨w.heap.size + 1, 1, none⟩)) :: (Value.int IntKind.u32 x1) :: (Value.pointer (some ⟨w.heap.size + 1, 2, none⟩)) :: (Value.int IntKind.u32 x2) :: (Value.pointer (some ⟨w.heap.size + 1, 3, none⟩)) :: (Value.int IntKind.u32 x3) :: (Value.tuple #[Value.int IntKind.u32 y0, Value.int IntKind.u32 y1, Value.int IntKind.u32 y2, Value.int IntKind.u32 y3]) :: (Value.int IntKind.u32 y0) :: (Value.int IntKind.u32 y1) :: (Value.int IntKind.u32 y2) :: (Value.int IntKind.u32 y3) :: (Value.slice (some ⟨w.heap.size + 1, 0, none⟩) 4 4) :: (Value.tuple #[]) :: (Value.int IntKind.u32 y0) :: (Value.slice (some ⟨w.heap.size + 1, 0, none⟩) 4 4) :: (Value.pointer (some ⟨w.heap.size + 1, 0, none⟩)) :: (Value.int IntKind.u32 y0) :: (Value.bool false) :: (Value.bool false) :: (Value.int IntKind.u32 y1) :: (Value.slice (some ⟨w.heap.size + 1, 0, none⟩) 4 4) :: (Value.pointer (some ⟨w.heap.size + 1, 1, none⟩)) :: (Value.int IntKind.u32 y1) :: (Value.bool false) :: (Value.bool false) :: (Value.bool false) :: (Value.int IntKind.u32 y2) :: (Value.slice (some ⟨w.heap.size + 1, 0, none⟩) 4 4) :: (Value.pointer (some ⟨w.heap.size + 1, 2, none⟩)) :: (Value.int IntKind.u32 y2) :: (Value.bool false) :: (Value.bool false) :: (Value.bool false) :: (Value.int IntKind.u32 y3) :: (Value.slice (some ⟨w.heap.size + 1, 0, none⟩) 4 4) :: (Value.pointer (some ⟨w.heap.size + 1, 3, none⟩)) :: (Value.int IntKind.u32 y3) :: (Value.bool false) :: (Value.bool false) :: (Value.pointer (some ⟨w.heap.size, 0, none⟩)) :: (Value.agg (ints IntKind.u8 key).toArray) :: (Value.pointer (some ⟨w.heap.size, 32, none⟩)) :: (Value.agg (ints IntKind.u8 nonce).toArray) :: (Value.pointer (some ⟨w.heap.size, 44, none⟩)) :: (Value.int IntKind.u32 (c : Int)) :: (Value.agg (ints IntKind.u8 bl).toArray) :: (Value.pointer (some ⟨w.heap.size, 0, none⟩)) :: (Value.agg (ints IntKind.u8 key).toArray) :: (Value.pointer (some ⟨w.heap.size, 32, none⟩)) :: (Value.agg (ints IntKind.u8 nonce).toArray) :: (Value.pointer (some ⟨w.heap.size, 44, none⟩)) :: (Value.int IntKind.u32 (c : Int)) :: (Value.slice AW 64 dW) :: (Value.slice (some ⟨w4.heap.size, 0, none⟩) 64 64) :: (Value.slice AW 64 dW) :: (Value.bool true) :: (Value.bool false) :: (Value.pointer (some ⟨w.heap.size, 44, none⟩)) :: (Value.int IntKind.u32 (c : Int)) :: (u79) :: (u80) :: (u81) :: (u82) :: (u83) :: (u84) :: (u85) :: (u86) :: (u87) :: (u88) :: (u89) :: (Value.pointer (some ⟨w.heap.size, 0, none⟩)) :: (Value.agg (ints IntKind.u8 key).toArray) :: (Value.pointer (some ⟨w.heap.size, 32, none⟩)) :: (Value.agg (ints IntKind.u8 nonce).toArray) :: (Value.pointer (some ⟨w.heap.size, 44, none⟩)) :: (Value.int IntKind.u32 (c : Int)) :: (Value.func (Fn.func 21) #[] #[Value.pointer (some ⟨x5 + 1 + 1, 0, none⟩), Value.pointer (some ⟨x5, 0, none⟩), Value.pointer (some ⟨x5 + 1, 0, none⟩)]) :: (Value.int .u8 x.1) :: (u98) :: (u99) :: (u100) :: (u101) :: (u102) :: (u103) :: (u104) :: (u105) :: (u106) :: (u107) :: (u108) :: (u109) :: (u110) :: (u111) :: []).toArray, defers := [] }) ?assign ?body ?done ?stop
    case assign =>
      intro l x W K hK
      gi_wp2
      exact hK
    case body =>
      rintro l pre ⟨xv, hxv⟩ W ⟨⟨⟨v, hv, hrow, _⟩, hBW, hxs⟩, hlen⟩ hN
      have hO : Owns W (x5 + 3) 5 .u8 v (bvals pre) := hrow
      obtain ⟨AR, mr, cr, rfl, hm⟩ := slice_of_row hO
      rw [bvals_len] at hm
      have HM := hid hm
      have HLEN := hid hlen
      have cbx := hv.cell
      clear hm hlen
      dsimp only
      gi_upto_region 17 with (fail)
      refine region_roundL rfl (fun h => by obtain ⟨_, _, h⟩ := h; exact h) ?_
      have hwc : Cl W (W.alloc (.cells #[.int .u8 xv] 5)) := (Below.refl _ _).alloc (Nat.le_refl _) _
      have hOa : Owns (W.alloc (.cells #[.int .u8 xv] 5)) (x5 + 3) 5 .u8 (.slice AR mr cr) (bvals pre) := hO.alloc _
      have hXa : Nums (W.alloc (.cells #[.int .u8 xv] 5)) .u8 (some ⟨W.heap.size, 0, none⟩) [xv] := one_row (Rw.new W [.int .u8 xv] 5)
      have hzb : x5 + 3 ≤ (W.alloc (.cells #[.int .u8 xv] 5)).heap.size := Nat.le_trans hxs hwc.size
      have H63 : Hid (((bvals pre).length + [xv].length) * 1 ≤ 140737488355328) := hid (by have := HLEN.out; rw [bvals_len]; simp only [List.length_cons, List.length_nil]; omega)
      go_wp2_with (with_reducible refine app_numsm rfl (.tmp 98) (.tmp 100) rfl (x5 + 3) AR mr cr (bvals pre) rfl hOa (some ⟨W.heap.size, 0, none⟩) 1 1 [xv] rfl rfl hXa H63.out hzb ?_
                   intro A' n' c' w3 hO3 hG
                   have hX3 := hide_box hv hO hwc hG
                   have c00 := hX3.cell
                   have c01 := hX3.frozen
                   have c02 := (hX3.set (.slice A' n' c')).cell
                   have hO3' : Owns w3 (x5 + 3) 5 .u8 (.slice A' n' c') (bvals (pre ++ [⟨xv, hxv⟩])) := by rw [bvals_app]; exact hO3
                   have hfin := got_step (B := W5.heap.size) hbx hv hO hBW hxs hwc hO3' hG
                   have hn' := hO3'.len
                   rw [bvals_len, List.length_append] at hn'
                   have HN' := hid hn'
                   clear hn' hX3 hO3 hO3' hG hOa hXa hwc hzb)
      obtain ⟨Wf, hWf⟩ : ∃ W, w3.setCell ⟨bt, 0, none⟩ (.slice A' n' c') = W := ⟨_, rfl⟩
      rw [hWf] at hfin c02 ⊢
      clear hWf c00 c01
      by_cases h1 : n' = 100
      · have e0 : ((n' : Int) == 100) = true := by rw [h1]; rfl
        have hl2 : (pre ++ [(⟨xv, hxv⟩ : B8)]).length = 100 := by rw [List.length_append, ← HN'.out, h1]
        clear h1
        gi_wp2
        exact ⟨hfin.1, hfin.2.2, rfl, hl2⟩
      · have e0 : ((n' : Int) == 100) = false := beq_false_of_ne (by omega)
        have hl2 : (pre ++ [(⟨xv, hxv⟩ : B8)]).length < 100 := by have := HN'.out; have := HLEN.out; rw [List.length_append]; simp only [List.length_cons, List.length_nil] at *; omega
        clear h1
        gi_wp2
        exact ⟨hfin.1, hfin.2.1, hfin.2.2, hl2⟩
    case done =>
      rintro D xs W hD hS ⟨⟨⟨v, hv, hrow, _⟩, hBW, hxs⟩, hlen⟩ hK
      have hO : Owns W (x5 + 3) 5 .u8 v (bvals xs) := hrow
      have hgot := got_all HK.out HN.out hc HM.out hS hlen
      clear hS hlen hst
      obtain ⟨AG, q, dG, rfl, hq⟩ := slice_of_row hO
      have HQL : Hid ((bvals xs).length = q) := hid hq.symm
      have hWL : (strm key nonce c M).length = mw := by rw [strm_length HK.out HN.out, HMW.out]
      have hqm : q = min mw 100 := by rw [hq, hgot, List.length_take, hWL, HMW.out]; omega
      rw [HMW.out] at hgot
      have hgot2 : Hid (bvals xs = (strm key nonce c M).take q) := hid (by rw [hqm]; exact hgot)
      have hmin : (if (100 : Int) < (mw : Int) then (100 : Int) else (mw : Int)) = (q : Int) := by split <;> omega
      have hq0 : (0 : Int) ≤ q := by omega
      have hqd : (q : Int) ≤ dW2 := by have := HMD.out; omega
      have hqd2 : q ≤ dW2 := by omega
      have hqx : q ≤ maxLen := by unfold maxLen; omega
      have htn : (q : Int).toNat = q := by omega
      have HQX := hid hqx
      have hbtW : bt < W.heap.size := by omega
      have q105 : ∀ ww, Cl W ww → ww.cell? ⟨bt, 0, none⟩ = some (.slice AG q dG) := fun ww h => (h.cell (p := ⟨bt, 0, none⟩) hbtW).trans hv.cell
      have hNg : Nums W .u8 AG (bvals xs) := hO.nums
      have hNw : Nums W .u8 AW2 ((strm key nonce c M).take q) := nums_take (hNW.nums.below (by rw [HBT.out]; exact hBW)) q
      have hBWw : Below w.heap.size w W := hBc.trans (hBW.mono hw0)
      clear hq hqm hgot hqx hWL hrow hO
      go_upto_region 19 with (fail)
      refine region_spec2 6 112 (fun _ => false) [Is (.slice AG q dG), Is (.slice AW2 mw dW2), Is (.slice AW2 mw dW2), Is (.int .i64 (mw : Int)), Is (.int .i64 (q : Int)), Is (.slice AW2 q dW2)] [105, 106, 107, 108, 109, 110] (by kernel_rfl) (by kernel_rfl) (by kernel_rfl) (Nat.le_of_eq rfl) (grows_cons (Is.grows _) (grows_cons (Is.grows _) (grows_cons (Is.grows _) (grows_cons (Is.grows _) (grows_cons (Is.grows _) (grows_cons (Is.grows _) grows_nil))))))
        ⟨(step_ex (.slice AG q dG) rfl (.inl rfl) rfl fun a ww hw hf hd => by
             have h12 : a.eval (.tmp 12) = (.pointer (some ⟨bt, 0, none⟩)) := ((knows_out (v := (.pointer (some ⟨bt, 0, none⟩))) 12 (by kernel_rfl) rfl) : Knows _ _ W _ 6 _ 0 _ _) a ww hw hf hd
             have hcc := q105 ww hw
             revert h12
             generalize a.eval = ev
             intro h12
             unfold execOp
             simp only [h12]
             go_simp),
         (step_ex (.slice AW2 mw dW2) rfl (.inl rfl) rfl fun a ww hw hf hd => by
             have h11 : a.eval (.tmp 11) = (.slice AW2 mw dW2) := ((knows_out (v := (.slice AW2 mw dW2)) 11 (by kernel_rfl) rfl) : Knows _ _ W _ 6 _ 1 _ _) a ww hw hf hd
             revert h11
             generalize a.eval = ev
             intro h11
             unfold execOp
             simp only [h11]
             go_simp),
         (step_ex (.slice AW2 mw dW2) rfl (.inl rfl) rfl fun a ww hw hf hd => by
             have h11 : a.eval (.tmp 11) = (.slice AW2 mw dW2) := ((knows_out (v := (.slice AW2 mw dW2)) 11 (by kernel_rfl) rfl) : Knows _ _ W _ 6 _ 2 _ _) a ww hw hf hd
             revert h11
             generalize a.eval = ev
             intro h11
             unfold execOp
             simp only [h11]
             go_simp),
         (step_ex (.int .i64 (mw : Int)) rfl (.inl rfl) rfl fun a ww hw hf hd => by
             have h107 : a.eval (.tmp 107) = (.slice AW2 mw dW2) := ((knows_in (v := (.slice AW2 mw dW2)) 2 107 (by decide) (by kernel_rfl) rfl rfl) : Knows _ _ W _ 6 _ 3 _ _) a ww hw hf hd
             revert h107
             generalize a.eval = ev
             intro h107
             unfold execOp
             simp only [h107]
             go_simp),
         (step_min rfl (.inl rfl) rfl rfl hmin (knows_in (v := (.int .i64 (mw : Int))) 3 108 (by decide) (by kernel_rfl) rfl rfl) (knows_const _)),
         (step_ex (.slice AW2 q dW2) rfl (.inl rfl) rfl fun a ww hw hf hd => by
             have h106 : a.eval (.tmp 106) = (.slice AW2 mw dW2) := ((knows_in (v := (.slice AW2 mw dW2)) 1 106 (by decide) (by kernel_rfl) rfl rfl) : Knows _ _ W _ 6 _ 5 _ _) a ww hw hf hd
             have h109 : a.eval (.tmp 109) = (.int .i64 (q : Int)) := ((knows_in (v := (.int .i64 (q : Int))) 4 109 (by decide) (by kernel_rfl) rfl rfl) : Knows _ _ W _ 6 _ 5 _ _) a ww hw hf hd
             revert h106 h109
             generalize a.eval = ev
             intro h106 h109
             unfold execOp
             simp only [h106, h109]
             go_simp), trivial⟩ ?_
      intro val w9 hw hS hap hla
      have e105 : val 105 = (.slice AG q dG) := hS 0 105 (by decide) rfl
      have e106 : val 106 = (.slice AW2 mw dW2) := hS 1 106 (by decide) rfl
      have e107 : val 107 = (.slice AW2 mw dW2) := hS 2 107 (by decide) rfl
      have e108 : val 108 = (.int .i64 (mw : Int)) := hS 3 108 (by decide) rfl
      have e109 : val 109 = (.int .i64 (q : Int)) := hS 4 109 (by decide) rfl
      have e110 : val 110 = (.slice AW2 q dW2) := hS 5 110 (by decide) rfl
      simp only [putVals, List.foldl_cons, List.foldl_nil, List.drop_succ_cons, List.drop_zero, Act.put, List.setIfInBounds_toArray, List.set_cons_succ, List.set_cons_zero, e105, e106, e107, e108, e109, e110]
      clear hS hap hla e105 e106 e107 e108 e109 e110
      have hNg9 := hNg.below hw
      have hNw9 := hNw.below hw
      have hB9 := hBWw.trans (hw.mono hBWw.size)
      have hK9 : w9.heap[D]? = some (.deferred (some [])) := (hw.block D (Array.getElem?_eq_some_iff.1 hK).1).trans hK
      clear hw q105 hNg hNw
      go_wp2_with (go_at_call 11; with_reducible refine (same_eq2 AG AW2 dG dW2 q (bvals xs) ((strm key nonce c M).take q) _ hgot2.out HQL.out HQX.out hNg9 hNw9).mono ?_; rintro e w10 ⟨rfl, hb10⟩)
      have hB10 := hB9.trans (hb10.mono hB9.size)
      have hK10 : w10.heap[D]? = some (.deferred (some [])) := (hb10.block D (Array.getElem?_eq_some_iff.1 hK9).1).trans hK9
      refine ⟨by simp, .inl ⟨_, _, rfl, run_takeDeferred hK10, ?_⟩⟩
      exact ⟨_, results_tmp rfl _ _ _, rfl, hB10.trans (belowK_b (Nat.le_refl _) w10 D _ _ (by have := hB5w.size; omega) hK10 rfl rfl)⟩
    case stop =>
      rintro D cd xs W hD hS ⟨⟨⟨v, hv, hrow, _⟩, hBW, hxs⟩, rfl, hlen⟩ hK
      have hO : Owns W (x5 + 3) 5 .u8 v (bvals xs) := hrow
      have hgot := got_some HK.out HN.out HM.out hS hlen
      clear hS hlen hst
      refine wpIn_wide.2 ?_
      obtain ⟨AG, q, dG, rfl, hq⟩ := slice_of_row hO
      have HQL : Hid ((bvals xs).length = q) := hid hq.symm
      have hWL : (strm key nonce c M).length = mw := by rw [strm_length HK.out HN.out, HMW.out]
      have hqm : q = min mw 100 := by rw [hq, hgot, List.length_take, hWL, HMW.out]; omega
      rw [HMW.out] at hgot
      have hgot2 : Hid (bvals xs = (strm key nonce c M).take q) := hid (by rw [hqm]; exact hgot)
      have hmin : (if (100 : Int) < (mw : Int) then (100 : Int) else (mw : Int)) = (q : Int) := by split <;> omega
      have hq0 : (0 : Int) ≤ q := by omega
      have hqd : (q : Int) ≤ dW2 := by have := HMD.out; omega
      have hqd2 : q ≤ dW2 := by omega
      have hqx : q ≤ maxLen := by unfold maxLen; omega
      have htn : (q : Int).toNat = q := by omega
      have HQX := hid hqx
      have hbtW : bt < W.heap.size := by omega
      have q105 : ∀ ww, Cl W ww → ww.cell? ⟨bt, 0, none⟩ = some (.slice AG q dG) := fun ww h => (h.cell (p := ⟨bt, 0, none⟩) hbtW).trans hv.cell
      have hNg : Nums W .u8 AG (bvals xs) := hO.nums
      have hNw : Nums W .u8 AW2 ((strm key nonce c M).take q) := nums_take (hNW.nums.below (by rw [HBT.out]; exact hBW)) q
      have hBWw : Below w.heap.size w W := hBc.trans (hBW.mono hw0)
      clear hq hqm hgot hqx hWL hrow hO
      go_upto_region 19 with (fail)
      refine region_spec2 6 112 (fun _ => false) [Is (.slice AG q dG), Is (.slice AW2 mw dW2), Is (.slice AW2 mw dW2), Is (.int .i64 (mw : Int)), Is (.int .i64 (q : Int)), Is (.slice AW2 q dW2)] [105, 106, 107, 108, 109, 110] (by kernel_rfl) (by kernel_rfl) (by kernel_rfl) (Nat.le_of_eq rfl) (grows_cons (Is.grows _) (grows_cons (Is.grows _) (grows_cons (Is.grows _) (grows_cons (Is.grows _) (grows_cons (Is.grows _) (grows_cons (Is.grows _) grows_nil))))))
        ⟨(step_ex (.slice AG q dG) rfl (.inl rfl) rfl fun a ww hw hf hd => by
             have h12 : a.eval (.tmp 12) = (.pointer (some ⟨bt, 0, none⟩)) := ((knows_out (v := (.pointer (some ⟨bt, 0, none⟩))) 12 (by kernel_rfl) rfl) : Knows _ _ W _ 6 _ 0 _ _) a ww hw hf hd
             have hcc := q105 ww hw
             revert h12
             generalize a.eval = ev
             intro h12
             unfold execOp
             simp only [h12]
             go_simp),
         (step_ex (.slice AW2 mw dW2) rfl (.inl rfl) rfl fun a ww hw hf hd => by
             have h11 : a.eval (.tmp 11) = (.slice AW2 mw dW2) := ((knows_out (v := (.slice AW2 mw dW2)) 11 (by kernel_rfl) rfl) : Knows _ _ W _ 6 _ 1 _ _) a ww hw hf hd
             revert h11
             generalize a.eval = ev
             intro h11
             unfold execOp
             simp only [h11]
             go_simp),
         (step_ex (.slice AW2 mw dW2) rfl (.inl rfl) rfl fun a ww hw hf hd => by
             have h11 : a.eval (.tmp 11) = (.slice AW2 mw dW2) := ((knows_out (v := (.slice AW2 mw dW2)) 11 (by kernel_rfl) rfl) : Knows _ _ W _ 6 _ 2 _ _) a ww hw hf hd
             revert h11
             generalize a.eval = ev
             intro h11
             unfold execOp
             simp only [h11]
             go_simp),
         (step_ex (.int .i64 (mw : Int)) rfl (.inl rfl) rfl fun a ww hw hf hd => by
             have h107 : a.eval (.tmp 107) = (.slice AW2 mw dW2) := ((knows_in (v := (.slice AW2 mw dW2)) 2 107 (by decide) (by kernel_rfl) rfl rfl) : Knows _ _ W _ 6 _ 3 _ _) a ww hw hf hd
             revert h107
             generalize a.eval = ev
             intro h107
             unfold execOp
             simp only [h107]
             go_simp),
         (step_min rfl (.inl rfl) rfl rfl hmin (knows_in (v := (.int .i64 (mw : Int))) 3 108 (by decide) (by kernel_rfl) rfl rfl) (knows_const _)),
         (step_ex (.slice AW2 q dW2) rfl (.inl rfl) rfl fun a ww hw hf hd => by
             have h106 : a.eval (.tmp 106) = (.slice AW2 mw dW2) := ((knows_in (v := (.slice AW2 mw dW2)) 1 106 (by decide) (by kernel_rfl) rfl rfl) : Knows _ _ W _ 6 _ 5 _ _) a ww hw hf hd
             have h109 : a.eval (.tmp 109) = (.int .i64 (q : Int)) := ((knows_in (v := (.int .i64 (q : Int))) 4 109 (by decide) (by kernel_rfl) rfl rfl) : Knows _ _ W _ 6 _ 5 _ _) a ww hw hf hd
             revert h106 h109
             generalize a.eval = ev
             intro h106 h109
             unfold execOp
             simp only [h106, h109]
             go_simp), trivial⟩ ?_
      intro val w9 hw hS hap hla
      have e105 : val 105 = (.slice AG q dG) := hS 0 105 (by decide) rfl
      have e106 : val 106 = (.slice AW2 mw dW2) := hS 1 106 (by decide) rfl
      have e107 : val 107 = (.slice AW2 mw dW2) := hS 2 107 (by decide) rfl
      have e108 : val 108 = (.int .i64 (mw : Int)) := hS 3 108 (by decide) rfl
      have e109 : val 109 = (.int .i64 (q : Int)) := hS 4 109 (by decide) rfl
      have e110 : val 110 = (.slice AW2 q dW2) := hS 5 110 (by decide) rfl
      simp only [putVals, List.foldl_cons, List.foldl_nil, List.drop_succ_cons, List.drop_zero, Act.put, List.setIfInBounds_toArray, List.set_cons_succ, List.set_cons_zero, e105, e106, e107, e108, e109, e110]
      clear hS hap hla e105 e106 e107 e108 e109 e110
      have hNg9 := hNg.below hw
      have hNw9 := hNw.below hw
      have hB9 := hBWw.trans (hw.mono hBWw.size)
      have hK9 : w9.heap[D]? = some (.deferred (some [])) := (hw.block D (Array.getElem?_eq_some_iff.1 hK).1).trans hK
      clear hw q105 hNg hNw
      go_wp2_with (go_at_call 11; with_reducible refine (same_eq2 AG AW2 dG dW2 q (bvals xs) ((strm key nonce c M).take q) _ hgot2.out HQL.out HQX.out hNg9 hNw9).mono ?_; rintro e w10 ⟨rfl, hb10⟩)
      have hB10 := hB9.trans (hb10.mono hB9.size)
      have hK10 : w10.heap[D]? = some (.deferred (some [])) := (hb10.block D (Array.getElem?_eq_some_iff.1 hK9).1).trans hK9
      refine ⟨by simp, .inl ⟨_, _, rfl, run_takeDeferred hK10, ?_⟩⟩
      exact ⟨_, results_tmp rfl _ _ _, rfl, hB10.trans (belowK_b (Nat.le_refl _) w10 D _ _ (by have := hB5w.size; omega) hK10 rfl rfl)⟩
end Go.Proofs.YtcbcahlgafngcaaDoor
