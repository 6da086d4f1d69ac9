/- Texts of this proof, laid together: Early, UOpen, UOpen2. -/
import Derived.Test.YtpncohoonfahpaaGreatDoorSpec2M
import Derived.Test.YtpncohoonfahpaaGreatDoorG21
import Derived.Test.YtpncohoonfahpaaGreatDoorUStepM
/- A region that draws its order, in which the first of the stores may come up before some operations of the head that only read. No program is named. -/
namespace Go.Proofs.YtpncohoonfahpaaGreatDoor
open Go Go.RowKit

section
variable {P : Program} {ops : Array Oper} {md : Region.Mode} {Q : Exit → Act → World → Prop}
set_option maxRecDepth 50000 in
theorem op_val {i : Nat} {o : Oper} {K : Act → World → Prop} {a : Act} {w : World} (ho : ops[i]? = some o) (hg : o.guard = none) {v : Value} (hr : (execOp a.eval o).run P w = .ok (.value v) w) (h : K (a.put o.dst v) w) : wpOp P ops Q i K a w := by
  unfold wpOp
  simp only [ho]
  rw [if_pos (by simp [Region.wanted, hg])]
  left
  unfold Oper.wp
  rw [hr]; exact h
set_option maxRecDepth 50000 in
theorem op_store {i : Nat} {o : Oper} {K : Act → World → Prop} {a : Act} {w : World} (ho : ops[i]? = some o) (hg : o.guard = none) (ty : TypeId) (x y : Operand) (hop : o.op = .store ty x y) (b : Nat) (cells : Array Value) (hx : a.eval x = .pointer (some ⟨b, 0, none⟩)) (hy : a.eval y = .agg cells)
    (ht : w.there b 0 cells.size) (hi : (P.info? ty).map (·.size) = some cells.size) (h1 : cells.all (·.oneCell') = true) (h : K (a.put o.dst undef) (w.setCells b 0 cells.toList)) : wpOp P ops Q i K a w := by
  unfold wpOp
  simp only [ho]
  rw [if_pos (by simp [Region.wanted, hg])]
  exact .inl (wp_store_mid ty x y hop b 0 cells hx hy ht hi h1 h)
end
section
variable {P : Program} {ops : Array Oper} {md : Region.Mode} {W : World} {a0 : Act} {n : Nat} {al : Nat → Bool} {S : Nat → Value → World → Prop}
set_option maxRecDepth 50000 in
theorem St.next {M : Nat} {listed : Array Bool} {a : Act} {w : World} {i : Nat} {o : Oper} (hdst : dstB ops n M = true) (hM : M ≤ a0.tmps.size)
    (mono : ∀ i v w w', S i v w → Below w.heap.size w w' → S i v w') (st : St ops W a0 n al S listed a w) (hin : i < n) (ho : ops[i]? = some o) (hil : i < listed.size)
    (v : Value) (hv : S i v w) (hna : al i = false) : St ops W a0 n al S (listed.setIfInBounds i true) (a.put o.dst v) w := by
  obtain ⟨d, hd, hdl, hdu⟩ := dst_spec hdst hM i hin
  have hod : o.dst = some d := by unfold dstOf at hd; rw [ho] at hd; exact hd
  have hset : ∀ j, (listed.setIfInBounds i true).getD j false = true → j = i ∨ listed.getD j false = true := fun j hj => by
    by_cases e : i = j
    · exact .inl e.symm
    · rw [getD_set_ne false e] at hj; exact .inr hj
  rw [hod]
  have same : (a.put (some d) v).eval (.tmp d) = v := by
    have h1 : d < a.tmps.size := by rw [st.size]; exact hdl
    simp [Act.put, Act.eval, Array.getD, h1]
  have other : ∀ dj, d ≠ dj → (a.put (some d) v).eval (.tmp dj) = a.eval (.tmp dj) := fun dj hne => by
    simp only [Act.put, Act.eval, Array.getD_eq_getD_getElem?]
    rw [Array.getElem?_setIfInBounds_ne hne]
  have dne : ∀ j dj, j < n → j ≠ i → dstOf ops j = some dj → d ≠ dj := fun j dj hj e hdj e2 => e (hdu j hj (by rw [hdj, e2])).symm
  have hni : ∀ j, al j = true → j ≠ i := fun j hj e => by rw [e, hna] at hj; cases hj
  refine ⟨st.cl, st.df, by simp [Act.put, st.size], fun t ht => ?_, fun j hj hlj dj hdj => ?_, fun j hj hlj hja dj hdj => ?_, fun j k hj hk hlj hlk hja hka hjk dj dk hdj hdk => ?_⟩
  · have hne : d ≠ t := fun e => ht i hin (by simp [hil]) (by rw [hd, e])
    show (a.tmps.setIfInBounds d v)[t]? = _
    rw [Array.getElem?_setIfInBounds_ne hne]
    exact st.frame t fun k hk hlk => ht k hk (getD_set_true hlk)
  · by_cases e : j = i
    · subst e
      obtain rfl : dj = d := Option.some.inj (hdj.symm.trans hd)
      rw [same]; exact hv
    · rw [other dj (dne j dj hj e hdj)]
      exact mono _ _ _ _ (st.vals j hj ((hset j hlj).resolve_left e) dj hdj) (Below.refl _ _)
  · have e := hni j hja
    rw [other dj (dne j dj hj e hdj)]
    exact st.laid j hj ((hset j hlj).resolve_left e) hja dj hdj
  · have e := hni j hja
    have e2 := hni k hka
    rw [other dj (dne j dj hj e hdj), other dk (dne k dk hk e2 hdk)]
    exact st.apart j k hj hk ((hset j hlj).resolve_left e) ((hset k hlk).resolve_left e2) hja hka hjk dj dk hdj hdk

/-- All that the kernel has to look at. -/
def earlyB (md : Region.Mode) (ops : Array Oper) (n M : Nat) : Bool :=
  decide (n + 1 < ops.size) && Region.chainB md ops n && backB md ops && dstB ops n M && Region.seqB md ops (ops.size - n) n (headArr n ops.size) && (List.range n).all (fun i => Region.waitsFor md ops (n + 1) i)
/-- An operation that may come up behind the store: it only reads. -/
def Free (P : Program) (ops : Array Oper) (md : Region.Mode) (W : World) (a0 : Act) (n : Nat) (S : Nat → Value → World → Prop) (i : Nat) (o : Oper) : Prop :=
  o.guard = none ∧ ∀ a w, Cl W w → Fr ops n a0 a → Dp ops md n S i a w → ∃ v, (execOp a.eval o).run P w = .ok (.value v) w ∧ ∀ w', S i v w'

set_option maxRecDepth 50000 in
theorem chain_waits {t : Nat} (hc : Region.chainB md ops n = true) (ht : n < t) (hts : t < ops.size) : Region.waitsFor md ops t (t - 1) = true := by
  have h := List.all_eq_true.1 hc t (List.mem_range.2 hts)
  simp only [Bool.or_eq_true, decide_eq_true_eq] at h
  rcases h with h | h
  · omega
  · exact h
set_option maxRecDepth 50000 in
theorem ready_waits {listed : Array Bool} {i j : Nat} (hi : i ∈ Region.ready md ops listed) (hw : Region.waitsFor md ops i j = true) : listed.getD j false = true := by
  obtain ⟨_, o, ho, hall⟩ := mem_ready.1 hi
  obtain ⟨o', ho', e, he, hb, hon⟩ := Region.waitsFor_spec hw
  obtain rfl : o' = o := Option.some.inj (ho'.symm.trans ho)
  rw [← hon]; exact hall e he hb

set_option maxRecDepth 50000 in
theorem spec_early {Q : Exit → Act → World → Prop} {M : Nat} {l : List Oper} (hl : ops = l.toArray) (hB : earlyB md ops n M = true) (hM : M ≤ a0.tmps.size)
    (mono : ∀ i v w w', S i v w → Below w.heap.size w w' → S i v w') (hst : ∀ i o, i < n → ops[i]? = some o → StepOk P ops md W a0 n al S Q i o)
    (ty : TypeId) (tp tv : Tmp) (cells : Array Value) (on : Oper) (hon : ops[n]? = some on) (hop : on.op = .store ty (.tmp tp) (.tmp tv)) (hg : on.guard = none) (hd : on.dst = none)
    (ip iv : Nat) (hip : ip < n) (hiv : iv < n) (hdp : dstOf ops ip = some tp) (hdv : dstOf ops iv = some tv) (hwp : Region.waitsFor md ops n ip = true) (hwv : Region.waitsFor md ops n iv = true)
    (hSp : ∀ v w, S ip v w → ∃ b, v = .pointer (some ⟨b, 0, none⟩) ∧ W.heap.size ≤ b ∧ w.there b 0 cells.size) (hSv : ∀ v w, S iv v w → v = .agg cells)
    (hi : (P.info? ty).map (·.size) = some cells.size) (h1 : cells.all (·.oneCell') = true)
    (hfree : ∀ i o, i < n → ops[i]? = some o → Region.waitsFor md ops n i = false → al i = false ∧ Free P ops md W a0 n S i o)
    (hstill : ∀ i j, i < n → j < n → Region.waitsFor md ops n i = false → Region.waitsFor md ops i j = true → ∀ v w w', S j v w → S j v w')
    (hend : ∀ a w b, St ops W a0 n al S (headArr n ops.size) a w → a.eval (.tmp tp) = .pointer (some ⟨b, 0, none⟩) → W.heap.size ≤ b → wpList P ops Q (l.drop (n + 1)) a (w.setCells b 0 cells.toList)) :
    ∀ (F : Nat) (listed : Array Bool) (a : Act) (w : World), lacking listed.toList = F →
      ((HInv md ops 0 n listed ∧ St ops W a0 n al S listed a w) ∨
       (∃ listed0 w0 b, listed = listed0.setIfInBounds n true ∧ HInv md ops 0 n listed0 ∧ St ops W a0 n al S listed0 a w0 ∧ (∀ j, Region.waitsFor md ops n j = true → listed0.getD j false = true) ∧ a.eval (.tmp tp) = .pointer (some ⟨b, 0, none⟩) ∧ W.heap.size ≤ b ∧ w = w0.setCells b 0 cells.toList)) →
      wpAny P md ops Q F listed a w := by
  simp only [earlyB, Bool.and_eq_true, decide_eq_true_eq] at hB
  obtain ⟨⟨⟨⟨⟨hn, hc⟩, hback⟩, hdst⟩, hseq⟩, hsink⟩ := hB
  have hseq2 : Region.seqB md ops (ops.size - (n + 1)) (n + 1) (headArr (n + 1) ops.size) = true := by
    have e : ops.size - n = (ops.size - (n + 1)) + 1 := by omega
    rw [e, Region.seqB, Bool.and_eq_true, headArr_set (by omega)] at hseq
    exact hseq.2
  have isHead : ∀ (k : Nat) (listed : Array Bool), listed.size = ops.size → (∀ i, i < k → listed.getD i false = true) → (∀ t, k ≤ t → t < ops.size → listed.getD t true = false) → listed = headArr k ops.size := fun k listed hsz h1 h2 => by
    apply Array.ext
    · simp [headArr, hsz]
      by_cases h : k ≤ ops.size
      · omega
      · exfalso
        have := h1 ops.size (by omega)
        rw [Array.getD_eq_getD_getElem?, Array.getElem?_eq_none (by omega)] at this
        cases this
    intro i h3 h4
    by_cases hik : i < k
    · have := h1 i hik
      have h5 : (headArr k ops.size)[i] = true := by
        simp [headArr, List.getElem_append_left, hik]
      rw [h5]
      simpa [h3] using this
    · have := h2 i (by omega) (by omega)
      have h5 : (headArr k ops.size)[i] = false := by
        simp only [headArr, List.getElem_toArray]
        rw [List.getElem_append_right (by simp; omega)]
        simp
      rw [h5]
      simpa [h3] using this
  have lackAt : ∀ (listed : Array Bool) (i : Nat), listed.getD i true = false → listed.toList[i]? = some false := fun listed i h => by
    rw [Array.getD_eq_getD_getElem?] at h
    rw [Array.getElem?_toList]
    cases h3 : listed[i]? with
    | none => rw [h3] at h; simp at h
    | some b => rw [h3] at h; simp at h; rw [h]
  have lackSet : ∀ (listed : Array Bool) (i F : Nat), listed.getD i true = false → lacking listed.toList = F + 1 → lacking (listed.setIfInBounds i true).toList = F := fun listed i F h hF => by
    have := lacking_set _ i (lackAt listed i h)
    have e : (listed.setIfInBounds i true).toList = listed.toList.set i true := by simp
    rw [e]; omega
  have runTail : ∀ (k : Nat) (a : Act) (w : World), k ≤ ops.size → Region.seqB md ops (ops.size - k) k (headArr k ops.size) = true → wpList P ops Q (l.drop k) a w → wpAny P md ops Q (lacking (headArr k ops.size).toList) (headArr k ops.size) a w := fun k a w hk hs h => by
    have hlen : (l.drop k).length = ops.size - k := by rw [hl]; simp
    have h3 := wpAny_of_seq (P := P) (ops := ops) (md := md) (Q' := Q) (l.drop k) k (headArr k ops.size) a w (fun j => by rw [hl]; simp [List.getElem?_drop]) (by rw [hlen]; exact hs) h
    rw [hlen] at h3
    have hg : lacking (headArr k ops.size).toList = ops.size - k := lacking_head k _
    rw [hg]; exact h3
  intro F
  induction F with
  | zero =>
    intro listed a w hF hI
    exfalso
    have hun : listed.getD (n + 1) true = false := by
      rcases hI with ⟨inv, _⟩ | ⟨l0, _, _, rfl, inv, _⟩
      · exact inv.inv.tail (n + 1) (by omega) hn
      · rw [getD_set_ne true (by omega)]
        exact inv.inv.tail (n + 1) (by omega) hn
    have := lacking_set _ (n + 1) (lackAt listed _ hun)
    omega
  | succ F ih =>
    intro listed a w hF hI
    rcases hI with ⟨inv, st⟩ | ⟨listed0, w0, b, rfl, inv, st, hdeps, hab, hWb, rfl⟩
    · have hsz := inv.inv.size
      by_cases hall : ∀ i, i < n → listed.getD i false = true
      · have e := isHead n listed hsz hall (fun t h1 h2 => inv.inv.tail t h1 h2)
        subst e
        rw [← hF]
        refine runTail n a w (by omega) hseq ?_
        have hln : l.drop n = on :: l.drop (n + 1) := by
          have h2 : l[n]? = some on := by rw [hl] at hon; simpa using hon
          obtain ⟨h3, h4⟩ := List.getElem?_eq_some_iff.1 h2
          rw [List.drop_eq_getElem_cons h3, h4]
        rw [hln]
        obtain ⟨b, e1, e2, e3⟩ := hSp _ _ (st.vals ip hip (head_true hip) tp hdp)
        refine wpList_store_mid hg ty (.tmp tp) (.tmp tv) hop b 0 cells e1 (hSv _ _ (st.vals iv hiv (head_true hiv) tv hdv)) e3 hi h1 ?_
        rw [hd]
        exact hend a w b st e1 e2
      · have hex : ∃ i, i < n ∧ listed.getD i false = false := by
          refine Classical.byContradiction fun hno => hall fun j hj => ?_
          cases h : listed.getD j false with
          | true => rfl
          | false => exact absurd ⟨j, hj, h⟩ hno
        obtain ⟨i0, hi0, hl0⟩ := hex
        obtain ⟨j0, _, hr0⟩ := first_ready (md := md) hback hsz i0 (by omega) hl0
        refine ⟨fun h => absurd hr0 (by rw [h]; simp), fun i hir => ?_⟩
        obtain ⟨hun, o, ho, hafter⟩ := mem_ready.1 hir
        have hil : i < listed.size := by
          have := (Array.getElem?_eq_some_iff.1 ho).1
          omega
        by_cases hin : i < n
        · exact St.step hdst hM mono (hst i o hin ho) st hin ho hil (fun j hw => ready_waits hir hw) _ (fun a' w' st' => ih _ _ _ (lackSet _ _ _ hun hF) (.inl ⟨inv.set hir hin, st'⟩))
        · by_cases e : i = n
          · subst e
            have l1 := ready_waits hir hwp
            have l2 := ready_waits hir hwv
            obtain ⟨b, e1, e2, e3⟩ := hSp _ _ (st.vals ip hip l1 tp hdp)
            refine op_store hon hg ty _ _ hop b cells e1 (hSv _ _ (st.vals iv hiv l2 tv hdv)) e3 hi h1 ?_
            rw [hd]
            exact ih _ _ _ (lackSet _ _ _ hun hF) (.inr ⟨listed, w, b, rfl, inv, st, fun j hw => ready_waits hir hw, e1, e2, rfl⟩)
          · exfalso
            have h2 := ready_waits hir (chain_waits hc (by omega) (by omega))
            have h3 := inv.inv.tail (i - 1) (by omega) (by omega)
            rw [getD_both h3] at h2; cases h2
    · have hsz := inv.inv.size
      have hnot : ∀ j, j ≠ n → ∀ d, (listed0.setIfInBounds n true).getD j d = listed0.getD j d := fun j hj d => getD_set_ne d (Ne.symm hj)
      by_cases hall : ∀ i, i < n → listed0.getD i false = true
      · have e := isHead n listed0 hsz hall (fun t h1 h2 => inv.inv.tail t h1 h2)
        subst e
        rw [headArr_set (by omega)] at hF ⊢
        rw [← hF]
        exact runTail (n + 1) a _ (by omega) hseq2 (hend a w0 b st hab hWb)
      · have hex : ∃ i, i < n ∧ listed0.getD i false = false := by
          refine Classical.byContradiction fun hno => hall fun j hj => ?_
          cases h : listed0.getD j false with
          | true => rfl
          | false => exact absurd ⟨j, hj, h⟩ hno
        obtain ⟨i0, hi0, hl0⟩ := hex
        obtain ⟨j0, _, hr0⟩ := first_ready (md := md) (listed := listed0.setIfInBounds n true) hback (by simp [hsz]) i0 (by omega) (by rw [hnot i0 (by omega)]; exact hl0)
        refine ⟨fun h => absurd hr0 (by rw [h]; simp), fun i hir => ?_⟩
        obtain ⟨hun, o, ho, hafter⟩ := mem_ready.1 hir
        have his : i < ops.size := (Array.getElem?_eq_some_iff.1 ho).1
        have hine : i ≠ n := fun e => by
          subst e
          rw [Array.getD_eq_getD_getElem?, Array.getElem?_setIfInBounds_self_of_lt (by omega)] at hun
          cases hun
        have hun0 : listed0.getD i true = false := by rw [← hnot i hine true]; exact hun
        by_cases hin : i < n
        · have hfr : Region.waitsFor md ops n i = false := by
            cases h : Region.waitsFor md ops n i with
            | false => rfl
            | true => have := hdeps i h; rw [getD_both hun0] at this; cases this
          obtain ⟨hna, hgd, hrun⟩ := hfree i o hin ho hfr
          have hwait : ∀ j, Region.waitsFor md ops i j = true → listed0.getD j false = true := fun j hw => by
            have h2 := ready_waits hir hw
            have h3 : j ≠ n := fun e => by
              obtain ⟨o', ho', e', he', hb', hon'⟩ := Region.waitsFor_spec hw
              have h4 := List.all_eq_true.1 hback i (List.mem_range.2 his)
              rw [ho'] at h4
              have h5 := Array.all_eq_true_iff_forall_mem.1 h4 e' he'
              rw [hb'] at h5
              simp at h5
              omega
            rw [hnot j h3] at h2; exact h2
          obtain ⟨v, hv1, hv2⟩ := hrun a (w0.setCells b 0 cells.toList) (Below.setCells st.cl hWb 0 _) (fun t ht => st.frame t (fun j hj _ => ht j hj)) (fun j dj hj hw hdj => hstill i j hin hj hfr hw _ w0 _ (st.vals j hj (hwait j hw) dj hdj))
          have st2 := St.next hdst hM mono st hin ho (by omega) v (hv2 w0) hna
          refine op_val ho hgd hv1 ?_
          have ecomm : (listed0.setIfInBounds n true).setIfInBounds i true = (listed0.setIfInBounds i true).setIfInBounds n true := Array.setIfInBounds_comm _ _ (Ne.symm hine)
          have hir0 : i ∈ Region.ready md ops listed0 := mem_ready.2 ⟨hun0, o, ho, fun e he hb => hwait e.on (waits_of ho he hb)⟩
          obtain ⟨d, hdi, hdl, hdu⟩ := dst_spec hdst hM i hin
          have hod : o.dst = some d := by unfold dstOf at hdi; rw [ho] at hdi; exact hdi
          refine ih _ _ _ (lackSet _ _ _ hun hF) (.inr ⟨listed0.setIfInBounds i true, w0, b, ecomm, inv.set hir0 hin, st2, fun j hw => getD_set_true (hdeps j hw), ?_, hWb, rfl⟩)
          have hne : d ≠ tp := fun e => by
            have := hdu ip hip (by rw [hdp, e])
            rw [this, hwp] at hfr; cases hfr
          rw [hod, ← hab]
          simp only [Act.put, Act.eval, Array.getD_eq_getD_getElem?]
          rw [Array.getElem?_setIfInBounds_ne hne]
        · exfalso
          by_cases e2 : i = n + 1
          · subst e2
            have h4 := List.all_eq_true.1 hsink i0 (List.mem_range.2 hi0)
            have h2 := ready_waits hir h4
            rw [hnot i0 (by omega), hl0] at h2; cases h2
          · have h2 := ready_waits hir (chain_waits hc (by omega) his)
            have h3 := inv.inv.tail (i - 1) (by omega) (by omega)
            rw [hnot (i - 1) (by omega), getD_both h3] at h2; cases h2

set_option maxRecDepth 50000 in
/-- The region, with the act at the end written out; the first store is done. -/
theorem region_early {id : Nat} {Q : Exit → Act → World → Prop} {l : List Oper} (n M : Nat) (al : Nat → Bool) (Ss : List (Value → World → Prop)) (ds : List Tmp) (hds : dstsOf l.toArray n = ds) (hm : P.follows .mixedOrders = true) (hB : earlyB .any l.toArray n M = true) (hM : M ≤ a0.tmps.size)
    (mono : ∀ S ∈ Ss, Grows S) (hst : Steps P l.toArray .any W a0 n al (sAt Ss) Q n 0 l)
    (ty : TypeId) (tp tv : Tmp) (cells : Array Value) (on : Oper) (hon : l.toArray[n]? = some on) (hop : on.op = .store ty (.tmp tp) (.tmp tv)) (hg : on.guard = none) (hd : on.dst = none)
    (ip iv : Nat) (hip : ip < n) (hiv : iv < n) (hdp : dstOf l.toArray ip = some tp) (hdv : dstOf l.toArray iv = some tv) (hwp : Region.waitsFor .any l.toArray n ip = true) (hwv : Region.waitsFor .any l.toArray n iv = true)
    (hSp : ∀ v w, sAt Ss ip v w → ∃ b, v = .pointer (some ⟨b, 0, none⟩) ∧ W.heap.size ≤ b ∧ w.there b 0 cells.size) (hSv : ∀ v w, sAt Ss iv v w → v = .agg cells)
    (hi : (P.info? ty).map (·.size) = some cells.size) (h1 : cells.all (·.oneCell') = true)
    (hfree : ∀ i o, i < n → l.toArray[i]? = some o → Region.waitsFor .any l.toArray n i = false → al i = false ∧ Free P l.toArray .any W a0 n (sAt Ss) i o)
    (hstill : ∀ i j, i < n → j < n → Region.waitsFor .any l.toArray n i = false → Region.waitsFor .any l.toArray i j = true → ∀ v w w', sAt Ss j v w → sAt Ss j v w')
    (hend : ∀ (val : Tmp → Value) w b, Cl W w → (∀ i d, i < n → dstOf l.toArray i = some d → sAt Ss i (val d) w) →
      (∀ i j d d', i < n → j < n → al i = true → al j = true → i ≠ j → dstOf l.toArray i = some d → dstOf l.toArray j = some d' → home (val d) ≠ home (val d')) →
      (∀ i d, i < n → al i = true → dstOf l.toArray i = some d → ∃ b, home (val d) = some b ∧ W.heap.size ≤ b ∧ b < w.heap.size) →
      val tp = .pointer (some ⟨b, 0, none⟩) → wpList P l.toArray Q (l.drop (n + 1)) (putVals ds val a0) (w.setCells b 0 cells.toList)) : (Code.region id l.toArray true).wp P Q a0 W := by
  refine wp_region_any hm ?_
  have hrep : ∀ i, (Array.replicate l.toArray.size false).getD i false = false := fun i => getD_replicate_false _ _
  refine spec_early (a0 := a0) (al := al) (S := sAt Ss) (l := l) rfl hB hM (fun i v w w' h1 h2 => grows_at mono i v w w' h1 h2) (fun i o hi ho => ?_) ty tp tv cells on hon hop hg hd ip iv hip hiv hdp hdv hwp hwv hSp hSv hi h1 hfree hstill (fun a w b st e1 _ => ?_) _ _ _ _ ?_ (.inl ⟨?_, ?_⟩)
  · have := Steps.at_ n 0 l hst i o hi (by simpa using ho)
    rwa [Nat.zero_add] at this
  · rw [st.act, hds]
    have hl : ∀ i, i < n → (headArr n l.toArray.size).getD i false = true := fun i hi => head_true hi
    exact hend (fun d => a.eval (.tmp d)) w b st.cl (fun i d hi hd => st.at_ i d hi hd) (fun i j d d' hi hj hai haj hij hd hd' => st.apart i j hi hj (hl i hi) (hl j hj) hai haj hij d d' hd hd') (fun i d hi hai hd => st.laid i hi (hl i hi) hai d hd) e1
  · have := lacking_new l.toArray.size
    simpa using this
  · refine ⟨⟨by simp, fun j oj _ hl _ _ _ => ?_, fun t _ hts => ?_⟩, fun i hi => by omega⟩
    · rw [hrep] at hl; cases hl
    · exact getD_in (by simpa using hts) (hrep t)
  · refine ⟨Cl.drew W, rfl, rfl, fun _ _ => rfl, fun i _ h => ?_, fun i _ h => ?_, fun i j _ _ h => ?_⟩ <;> (rw [hrep] at h; cases h)
end
end Go.Proofs.YtpncohoonfahpaaGreatDoor

/- What opens a term; Unwrap, Unlock. -/
namespace Go.Proofs.YtpncohoonfahpaaGreatDoor
open Go Go.RowKit

set_option maxRecDepth 50000 in
theorem no_wait {ops : Array Oper} {n j : Nat} (h : Region.waitsFor .any ops n j = false) (k : Region.waitsFor .any ops n j = true) : False := by rw [h] at k; cases k
set_option maxRecDepth 50000 in
theorem no_wait2 {ops : Array Oper} {n j : Nat} (k : Region.waitsFor .any ops n j = true) (h : Region.waitsFor .any ops n j = false) : False := by rw [h] at k; cases k
set_option maxRecDepth 50000 in
theorem free_sndU {P : Program} {ops : Array Oper} {md : Region.Mode} {W : World} {a0 : Act} {n : Nat} {S : Nat → Value → World → Prop} {i : Nat} {o : Oper} (hg : o.guard = none) {x : Operand} {u v : Value} (ho : o.op = .extract x 1) (hS : S i = Is v) (hx : Knows ops md W a0 n S i x (.tuple #[u, v])) : Free P ops md W a0 n S i o :=
  ⟨hg, fun a w hw hf hd => ⟨v, by
    have h := hx a w hw hf hd
    generalize a.eval = ev at *
    unfold execOp
    simp only [ho, h]
    go_simp, fun _ => by rw [hS]; exact rfl⟩⟩
section
variable (F : Nat → Prop) (q p : Nat) (L : List T3) (X : List (List Int))
set_option maxRecDepth 50000 in
theorem opener_lock (a b : Int) (w : World) :
    Calls Tryz.prog 147 #[.pointer (some ⟨q, 0, none⟩), .agg #[.int .i64 5, .int .i64 a, .int .i64 b]] w fun e w' => e = .returned (.int .i64 a) ∧ Below w.heap.size w w' := by
  obtain ⟨W, hW, d0, d1, d2, hb, hBt⟩ := term_world (5, a, b) w
  dsimp only at hW d0 d1 d2
  have HW := hid hW
  clear hW hBt
  go_enter Tryz.func147, Tryz.ntmps147
  go_upto_region 1 with (fail)
  rw [HW.out]
  go_wp2
  go_ret
  exact ⟨rfl, hb⟩
set_option maxRecDepth 50000 in
set_option maxHeartbeats 2000000 in
theorem opener_wrap (ia : Nat) (b ka aa ab : Int) (w : World) (h : Su F w q p L X) (hn : L[ia]? = some (ka, aa, ab)) :
    Calls Tryz.prog 147 #[.pointer (some ⟨q, 0, none⟩), .agg #[.int .i64 4, .int .i64 ia, .int .i64 b]] w fun e w' => e = .returned (.int .i64 aa) ∧ Below w.heap.size w w' := by
  obtain ⟨W, hW, d0, d1, d2, hb, hBt⟩ := term_world (4, (ia : Int), b) w
  dsimp only at hW d0 d1 d2
  have hBt : Blk W w.heap.size 65 [.int .i64 4, .int .i64 ia, .int .i64 b] := hBt
  have HW := hid hW
  have hS := h.next hb
  clear hW h
  go_enter Tryz.func147, Tryz.ntmps147
  go_upto_region 1 with (fail)
  rw [HW.out]
  go_upto_region 2 with (fail)
  refine region_early 11 24 (fun i => i == 10) [Is (Value.pointer (some ⟨q, 0, none⟩)), Is (Value.pointer (some ⟨q, 0, none⟩)), Is (Value.pointer (some ⟨q, 34, none⟩)), Is (Value.pointer (some ⟨p, 0, none⟩)), Is (Value.pointer (some ⟨w.heap.size, 1, none⟩)), Is (Value.int .i64 ia), Is (Value.tuple #[Value.agg #[.int .i64 ka, .int .i64 aa, .int .i64 ab], Value.bool true]), Is (Value.tuple #[Value.agg #[.int .i64 ka, .int .i64 aa, .int .i64 ab], Value.bool true]), Is (Value.agg #[.int .i64 ka, .int .i64 aa, .int .i64 ab]), Is (Value.bool true), IsZV W.heap.size [.int .i64 0, .int .i64 0, .int .i64 0]] [11, 12, 13, 14, 15, 16, 17, 10, 18, 19, 5] (by kernel_rfl) (by kernel_rfl) (by kernel_rfl) (Nat.le_of_eq rfl) (grows_cons (Is.grows _) (grows_cons (Is.grows _) (grows_cons (Is.grows _) (grows_cons (Is.grows _) (grows_cons (Is.grows _) (grows_cons (Is.grows _) (grows_cons (Is.grows _) (grows_cons (Is.grows _) (grows_cons (Is.grows _) (grows_cons (Is.grows _) (grows_cons (IsZV.grows _ _) grows_nil)))))))))))
    ⟨(step_ex _ rfl (.inl rfl) rfl (fun a ww hw hf hd => by
   have h0 : a.eval (.tmp 0) = Value.pointer (some ⟨q, 0, none⟩) := ((knows_out 0 (by kernel_rfl) rfl) : Knows _ _ _ _ _ _ 0 _ _) a ww hw hf hd
   revert h0
   generalize a.eval = ev
   intro h0
   unfold execOp
   simp only [h0]
   go_simp)),
     (step_ex _ rfl (.inl rfl) rfl (fun a ww hw hf hd => by
   have h11 : a.eval (.tmp 11) = Value.pointer (some ⟨q, 0, none⟩) := ((knows_in 0 11 (by decide) (by kernel_rfl) rfl rfl) : Knows _ _ _ _ _ _ 1 _ _) a ww hw hf hd
   revert h11
   generalize a.eval = ev
   intro h11
   unfold execOp
   simp only [h11]
   go_simp)),
     (step_ex _ rfl (.inl rfl) rfl (fun a ww hw hf hd => by
   have h12 : a.eval (.tmp 12) = Value.pointer (some ⟨q, 0, none⟩) := ((knows_in 1 12 (by decide) (by kernel_rfl) rfl rfl) : Knows _ _ _ _ _ _ 2 _ _) a ww hw hf hd
   revert h12
   generalize a.eval = ev
   intro h12
   unfold execOp
   simp only [h12]
   go_simp)),
     (step_ex _ rfl (.inl rfl) rfl (fun a ww hw hf hd => by
   have h13 : a.eval (.tmp 13) = Value.pointer (some ⟨q, 34, none⟩) := ((knows_in 2 13 (by decide) (by kernel_rfl) rfl rfl) : Knows _ _ _ _ _ _ 3 _ _) a ww hw hf hd
   have f0 : ww.cell? ⟨q, 34, none⟩ = some (Value.pointer (some ⟨p, 0, none⟩)) := (hS.next hw).is.store
   revert h13
   generalize a.eval = ev
   intro h13
   unfold execOp
   simp only [h13]
   go_simp)),
     (step_ex _ rfl (.inl rfl) rfl (fun a ww hw hf hd => by
   have h3 : a.eval (.tmp 3) = Value.pointer (some ⟨w.heap.size, 0, none⟩) := ((knows_out 3 (by kernel_rfl) rfl) : Knows _ _ _ _ _ _ 4 _ _) a ww hw hf hd
   revert h3
   generalize a.eval = ev
   intro h3
   unfold execOp
   simp only [h3]
   go_simp)),
     (step_ex _ rfl (.inl rfl) rfl (fun a ww hw hf hd => by
   have h15 : a.eval (.tmp 15) = Value.pointer (some ⟨w.heap.size, 1, none⟩) := ((knows_in 4 15 (by decide) (by kernel_rfl) rfl rfl) : Knows _ _ _ _ _ _ 5 _ _) a ww hw hf hd
   have f0 : ww.cell? ⟨w.heap.size, 1, none⟩ = some (Value.int .i64 ia) := (hBt.next hw).cell (i := 1) rfl
   revert h15
   generalize a.eval = ev
   intro h15
   unfold execOp
   simp only [h15]
   go_simp)),
     (step_cw rfl (.inl rfl) rfl cxT45 rfl (fun aa ww hw hf hd => ⟨_, (two_args (knows_in 3 14 (by decide) (by kernel_rfl) rfl rfl) (knows_in 5 16 (by decide) (by kernel_rfl) rfl rfl)) aa ww hw hf hd, get_t (hS.next hw).cs hn⟩)),
     (step_ex _ rfl (.inl rfl) rfl (fun a ww hw hf hd => by
   have h17 : a.eval (.tmp 17) = Value.tuple #[Value.agg #[.int .i64 ka, .int .i64 aa, .int .i64 ab], Value.bool true] := ((knows_in 6 17 (by decide) (by kernel_rfl) rfl rfl) : Knows _ _ _ _ _ _ 7 _ _) a ww hw hf hd
   revert h17
   generalize a.eval = ev
   intro h17
   unfold execOp
   simp only [h17]
   go_simp)),
     (step_ex _ rfl (.inl rfl) rfl (fun a ww hw hf hd => by
   have h10 : a.eval (.tmp 10) = Value.tuple #[Value.agg #[.int .i64 ka, .int .i64 aa, .int .i64 ab], Value.bool true] := ((knows_in 7 10 (by decide) (by kernel_rfl) rfl rfl) : Knows _ _ _ _ _ _ 8 _ _) a ww hw hf hd
   revert h10
   generalize a.eval = ev
   intro h10
   unfold execOp
   simp only [h10]
   go_simp)),
     (step_ex _ rfl (.inl rfl) rfl (fun a ww hw hf hd => by
   have h10 : a.eval (.tmp 10) = Value.tuple #[Value.agg #[.int .i64 ka, .int .i64 aa, .int .i64 ab], Value.bool true] := ((knows_in 7 10 (by decide) (by kernel_rfl) rfl rfl) : Knows _ _ _ _ _ _ 9 _ _) a ww hw hf hd
   revert h10
   generalize a.eval = ev
   intro h10
   unfold execOp
   simp only [h10]
   go_simp)),
     (step_allocV (.inl rfl) infT rfl rfl), trivial⟩
    65 5 18 #[.int .i64 ka, .int .i64 aa, .int .i64 ab] _ rfl rfl rfl rfl 10 8 (by decide) (by decide) rfl rfl (by kernel_rfl) (by kernel_rfl) (fun v w ⟨b, h1, h2, h3⟩ => ⟨b, h1, h2, h3.roomA (us := #[.int .i64 ka, .int .i64 aa, .int .i64 ab].toList) rfl⟩) (fun v w h => h) (tsz ka aa ab) (tone ka aa ab)
    (fun i o hi ho hf => by
      have hc : i = 0 ∨ i = 1 ∨ i = 2 ∨ i = 3 ∨ i = 4 ∨ i = 5 ∨ i = 6 ∨ i = 7 ∨ i = 8 ∨ i = 9 ∨ i = 10 := by omega
      rcases hc with e | e | e | e | e | e | e | e | e | e | e <;> subst e
      · exact (no_wait hf (by kernel_rfl)).elim
      · exact (no_wait hf (by kernel_rfl)).elim
      · exact (no_wait hf (by kernel_rfl)).elim
      · exact (no_wait hf (by kernel_rfl)).elim
      · exact (no_wait hf (by kernel_rfl)).elim
      · exact (no_wait hf (by kernel_rfl)).elim
      · exact (no_wait hf (by kernel_rfl)).elim
      · exact (no_wait hf (by kernel_rfl)).elim
      · exact (no_wait hf (by kernel_rfl)).elim
      · injection ho with ho; subst ho
        exact ⟨rfl, free_sndU rfl rfl rfl (knows_in 7 10 (by decide) (by kernel_rfl) rfl rfl)⟩
      · exact (no_wait hf (by kernel_rfl)).elim)
    (fun i j hi hj hf hw v w w' h => by
      have hc : i = 0 ∨ i = 1 ∨ i = 2 ∨ i = 3 ∨ i = 4 ∨ i = 5 ∨ i = 6 ∨ i = 7 ∨ i = 8 ∨ i = 9 ∨ i = 10 := by omega
      have hd : j = 0 ∨ j = 1 ∨ j = 2 ∨ j = 3 ∨ j = 4 ∨ j = 5 ∨ j = 6 ∨ j = 7 ∨ j = 8 ∨ j = 9 ∨ j = 10 := by omega
      rcases hc with e | e | e | e | e | e | e | e | e | e | e <;> subst e
      · exact (no_wait hf (by kernel_rfl)).elim
      · exact (no_wait hf (by kernel_rfl)).elim
      · exact (no_wait hf (by kernel_rfl)).elim
      · exact (no_wait hf (by kernel_rfl)).elim
      · exact (no_wait hf (by kernel_rfl)).elim
      · exact (no_wait hf (by kernel_rfl)).elim
      · exact (no_wait hf (by kernel_rfl)).elim
      · exact (no_wait hf (by kernel_rfl)).elim
      · exact (no_wait hf (by kernel_rfl)).elim
      · rcases hd with e | e | e | e | e | e | e | e | e | e | e <;> subst e
        · exact (no_wait2 hw (by kernel_rfl)).elim
        · exact (no_wait2 hw (by kernel_rfl)).elim
        · exact (no_wait2 hw (by kernel_rfl)).elim
        · exact (no_wait2 hw (by kernel_rfl)).elim
        · exact (no_wait2 hw (by kernel_rfl)).elim
        · exact (no_wait2 hw (by kernel_rfl)).elim
        · exact (no_wait2 hw (by kernel_rfl)).elim
        · exact h
        · exact (no_wait2 hw (by kernel_rfl)).elim
        · exact (no_wait2 hw (by kernel_rfl)).elim
        · exact (no_wait2 hw (by kernel_rfl)).elim
      · exact (no_wait hf (by kernel_rfl)).elim) ?_
  intro val w2 bq hw hS hap hla hbq
  have e11 : val 11 = Value.pointer (some ⟨q, 0, none⟩) := hS 0 11 (by decide) rfl
  have e12 : val 12 = Value.pointer (some ⟨q, 0, none⟩) := hS 1 12 (by decide) rfl
  have e13 : val 13 = Value.pointer (some ⟨q, 34, none⟩) := hS 2 13 (by decide) rfl
  have e14 : val 14 = Value.pointer (some ⟨p, 0, none⟩) := hS 3 14 (by decide) rfl
  have e15 : val 15 = Value.pointer (some ⟨w.heap.size, 1, none⟩) := hS 4 15 (by decide) rfl
  have e16 : val 16 = Value.int .i64 ia := hS 5 16 (by decide) rfl
  have e17 : val 17 = Value.tuple #[Value.agg #[.int .i64 ka, .int .i64 aa, .int .i64 ab], Value.bool true] := hS 6 17 (by decide) rfl
  have e10 : val 10 = Value.tuple #[Value.agg #[.int .i64 ka, .int .i64 aa, .int .i64 ab], Value.bool true] := hS 7 10 (by decide) rfl
  have e18 : val 18 = Value.agg #[.int .i64 ka, .int .i64 aa, .int .i64 ab] := hS 8 18 (by decide) rfl
  have e19 : val 19 = Value.bool true := hS 9 19 (by decide) rfl
  obtain ⟨b5, e5, L5, Z5⟩ := hS 10 5 (by decide) rfl
  have eb : b5 = bq := by
    rw [e5] at hbq
    injection hbq with h
    injection h with h
    injection h
  subst eb
  clear hbq
  simp only [putVals, List.foldl_cons, List.foldl_nil, List.drop_succ_cons, List.drop_zero, Act.put, List.setIfInBounds_toArray, List.set_cons_succ, List.set_cons_zero, e11, e12, e13, e14, e15, e16, e17, e10, e18, e19, e5]
  clear e11 e12 e13 e14 e15 e16 e17 e10 e18 e19 e5 hS hap hla
  have h5 := Z5.storedA (us := [.int .i64 ka, .int .i64 aa, .int .i64 ab]) rfl
  have hb2 := hb.trans (Below.mono (Below.setCells hw L5 0 #[.int .i64 ka, .int .i64 aa, .int .i64 ab].toList) hb.size)
  have c1 := (h5 1 _ rfl).1
  generalize w2.setCells b5 0 #[.int .i64 ka, .int .i64 aa, .int .i64 ab].toList = w3 at *
  clear hw L5 Z5 h5 hS hBt d0 d1 d2
  go_wp2
  go_ret
  exact ⟨rfl, hb2⟩
end
end Go.Proofs.YtpncohoonfahpaaGreatDoor

/- Unwrap, Unlock and Check of a suite of terms. -/
namespace Go.Proofs.YtpncohoonfahpaaGreatDoor
open Go Go.RowKit

section
variable (F : Nat → Prop) (q p : Nat) (L : List T3) (X : List (List Int))
set_option maxRecDepth 50000 in
set_option maxHeartbeats 2000000 in
theorem open_none (k : Int) (v u : Value) (x : Option Nat) (w : World) (h : Su F w q p L X) (hv : Vl w v x) (hx : ∀ n, x = some n → n < L.length) (hu : Vl w u none) (hL : L.length ≤ 40) :
    Calls Tryz.prog 90 #[.pointer (some ⟨q, 0, none⟩), .int .i64 k, v, u] w (BadQ w 11) := by
  obtain ⟨nx, hnx⟩ : ∃ nx, nOf x = nx := ⟨_, rfl⟩
  obtain ⟨bx, hbx⟩ : ∃ bx, x.isSome = bx := ⟨_, rfl⟩
  have HN := hid (TI.num h hv hx hL hnx hbx)
  have HT := hid (fun w1 (hb : Below w.heap.size w w1) => termOf_no F q p L X u w1 (h.next hb) (hu.next hb) hL)
  clear h hv hu hx hL hnx hbx
  go_enter Tryz.func90, Tryz.ntmps90
  go_upto_region 3 with (first
    | (go_at_call 43; refine HN.out.mono ?_; rintro e w1 ⟨rfl, hb1⟩)
    | (go_at_call 82; refine (HT.out w1 hb1).mono ?_; rintro e w2 ⟨rfl, hb2⟩))
  have hb3 := (hb1.trans (Below.mono hb2 hb1.size))
  have hb4 := hb3.trans (Below.mono (below_new w2 (.cells #[.int .i64 0, .int .i64 0, .int .i64 0] 65)) hb3.size)
  clear HN HT hb1 hb2 hb3
  cases bx
  all_goals
    go_wp2
    go_ret2
    exact ⟨rfl, hb4⟩
set_option maxRecDepth 50000 in
set_option maxHeartbeats 2000000 in
theorem open_nil (k : Int) (v u : Value) (m : Nat) (tk ta tb : Int) (w : World) (h : Su F w q p L X) (hv : Vl w v none) (hu : Vl w u (some m)) (hm : L[m]? = some (tk, ta, tb)) (hL : L.length ≤ 40) :
    Calls Tryz.prog 90 #[.pointer (some ⟨q, 0, none⟩), .int .i64 k, v, u] w (BadQ w 11) := by
  have HN := hid (number_no F q p L X v w h hv hL)
  have HT := hid (fun w1 (hb : Below w.heap.size w w1) => termOf_yes F q p L X u m tk ta tb w1 (h.next hb) (hu.next hb) hm hL)
  clear h hv hu hm hL
  go_enter Tryz.func90, Tryz.ntmps90
  go_upto_region 3 with (first
    | (go_at_call 43; refine HN.out.mono ?_; rintro e w1 ⟨rfl, hb1⟩)
    | (go_at_call 82; refine (HT.out w1 hb1).mono ?_; rintro e w2 ⟨rfl, hb2⟩))
  have hb3 := (hb1.trans (Below.mono hb2 hb1.size))
  have hb4 := hb3.trans (Below.mono (below_new w2 (.cells #[.int .i64 tk, .int .i64 ta, .int .i64 tb] 65)) hb3.size)
  clear HN HT hb1 hb2 hb3
  go_wp2
  go_ret2
  exact ⟨rfl, hb4⟩
set_option maxRecDepth 50000 in
set_option maxHeartbeats 2000000 in
theorem open_other (k : Int) (v u : Value) (n m : Nat) (tk ta tb : Int) (w : World) (h : Su F w q p L X) (hv : Vl w v (some n)) (hn : n < L.length) (hu : Vl w u (some m)) (hm : L[m]? = some (tk, ta, tb)) (hL : L.length ≤ 40) (hk : (tk != k) = true) :
    Calls Tryz.prog 90 #[.pointer (some ⟨q, 0, none⟩), .int .i64 k, v, u] w (BadQ w 20) := by
  have HN := hid (number_yes F q p L X v n w h hv hn hL)
  have HT := hid (fun w1 (hb : Below w.heap.size w w1) => termOf_yes F q p L X u m tk ta tb w1 (h.next hb) (hu.next hb) hm hL)
  clear h hv hu hm hL hn
  go_enter Tryz.func90, Tryz.ntmps90
  go_upto_region 3 with (first
    | (go_at_call 43; refine HN.out.mono ?_; rintro e w1 ⟨rfl, hb1⟩)
    | (go_at_call 82; refine (HT.out w1 hb1).mono ?_; rintro e w2 ⟨rfl, hb2⟩))
  have hb3 := (hb1.trans (Below.mono hb2 hb1.size))
  have hb4 := hb3.trans (Below.mono (below_new w2 (.cells #[.int .i64 tk, .int .i64 ta, .int .i64 tb] 65)) hb3.size)
  clear HN HT hb1 hb2 hb3
  go_wp2
  go_ret2
  exact ⟨rfl, hb4⟩
set_option maxRecDepth 50000 in
set_option maxHeartbeats 2000000 in
theorem open_miss (k : Int) (v u : Value) (n m : Nat) (ta tb oc : Int) (w : World) (h : Su F w q p L X) (hv : Vl w v (some n)) (hn : n < L.length) (hu : Vl w u (some m)) (hm : L[m]? = some (k, ta, tb)) (hL : L.length ≤ 40) (hk : (oc != (n : Int)) = true)
    (HO : Hid (∀ W, Below w.heap.size w W → Calls Tryz.prog 147 #[.pointer (some ⟨q, 0, none⟩), .agg #[.int .i64 k, .int .i64 ta, .int .i64 tb]] W fun e w' => e = .returned (.int .i64 oc) ∧ Below W.heap.size W w')) :
    Calls Tryz.prog 90 #[.pointer (some ⟨q, 0, none⟩), .int .i64 k, v, u] w (BadQ w 20) := by
  have HN := hid (number_yes F q p L X v n w h hv hn hL)
  have HT := hid (fun w1 (hb : Below w.heap.size w w1) => termOf_yes F q p L X u m k ta tb w1 (h.next hb) (hu.next hb) hm hL)
  clear h hv hu hm hL hn
  go_enter Tryz.func90, Tryz.ntmps90
  go_upto_region 3 with (first
    | (go_at_call 43; refine HN.out.mono ?_; rintro e w1 ⟨rfl, hb1⟩)
    | (go_at_call 82; refine (HT.out w1 hb1).mono ?_; rintro e w2 ⟨rfl, hb2⟩))
  have hb3 := (hb1.trans (Below.mono hb2 hb1.size))
  obtain ⟨W3, hW3, d0, d1, d2, hbW3, hBt⟩ := term_world (k, ta, tb) w2
  have hW3 : w2.alloc (.cells #[.int .i64 k, .int .i64 ta, .int .i64 tb] 65) = W3 := hW3
  have hb4 := hb3.trans (Below.mono hbW3 hb3.size)
  dsimp only at d0 d1 d2
  rw [hW3]
  clear HN HT hb1 hb2 hb3 hW3 hbW3 hBt
  go_wp2_with (go_at_call 147; refine (HO.out W3 hb4).mono ?_; rintro e w5 ⟨rfl, hb5⟩; have hb6 := hb4.trans (Below.mono hb5 hb4.size))
  go_ret2
  exact ⟨rfl, hb6⟩
/-- The value that was inside. -/
def InQ (w : World) (j : Nat) (e : Ending) (w' : World) : Prop := ∃ A c, e = .returned (.tuple #[.slice A 9 c, .int .i64 0]) ∧ 9 ≤ c ∧ Nums w' .u8 A (valL j) ∧ Below w.heap.size w w'
set_option maxRecDepth 50000 in
set_option maxHeartbeats 2000000 in
theorem open_hit (k : Int) (v u : Value) (n m j : Nat) (ta : Int) (w : World) (h : Su F w q p L X) (hv : Vl w v (some n)) (hn : n < L.length) (hu : Vl w u (some m)) (hm : L[m]? = some (k, ta, (j : Int))) (hj : j ≤ 1000) (hL : L.length ≤ 40)
    (HO : Hid (∀ W, Below w.heap.size w W → Calls Tryz.prog 147 #[.pointer (some ⟨q, 0, none⟩), .agg #[.int .i64 k, .int .i64 ta, .int .i64 (j : Int)]] W fun e w' => e = .returned (.int .i64 (n : Int)) ∧ Below W.heap.size W w')) :
    Calls Tryz.prog 90 #[.pointer (some ⟨q, 0, none⟩), .int .i64 k, v, u] w (InQ w j) := by
  have HN := hid (number_yes F q p L X v n w h hv hn hL)
  have HT := hid (fun w1 (hb : Below w.heap.size w w1) => termOf_yes F q p L X u m k ta j w1 (h.next hb) (hu.next hb) hm hL)
  have HJ := hid hj
  clear h hv hu hm hL hn hj
  go_enter Tryz.func90, Tryz.ntmps90
  go_upto_region 3 with (first
    | (go_at_call 43; refine HN.out.mono ?_; rintro e w1 ⟨rfl, hb1⟩)
    | (go_at_call 82; refine (HT.out w1 hb1).mono ?_; rintro e w2 ⟨rfl, hb2⟩))
  have hb3 := (hb1.trans (Below.mono hb2 hb1.size))
  obtain ⟨W3, hW3, d0, d1, d2, hbW3, hBt⟩ := term_world (k, ta, (j : Int)) w2
  have hW3 : w2.alloc (.cells #[.int .i64 k, .int .i64 ta, .int .i64 (j : Int)] 65) = W3 := hW3
  have hBt : Blk W3 w2.heap.size 65 [.int .i64 k, .int .i64 ta, .int .i64 (j : Int)] := hBt
  have hb4 := hb3.trans (Below.mono hbW3 hb3.size)
  dsimp only at d0 d1 d2
  rw [hW3]
  clear HN HT hb1 hb2 hb3 hW3 hbW3
  go_wp2_with (first
    | (go_at_call 147; refine (HO.out W3 hb4).mono ?_; rintro e w5 ⟨rfl, hb5⟩; have hb6 := hb4.trans (Below.mono hb5 hb4.size); have e2 := (hBt.next hb5).cell (i := 2) rfl)
    | (go_at_call 49; refine (valueOf_ok j _ HJ.out).mono ?_; rintro e w7 ⟨A7, c7, rfl, hc7, hN7, hb7⟩))
  go_ret2
  exact ⟨A7, c7, rfl, hc7, hN7.nums, hb6.trans (Below.mono hb7 hb6.size)⟩
end
end Go.Proofs.YtpncohoonfahpaaGreatDoor
