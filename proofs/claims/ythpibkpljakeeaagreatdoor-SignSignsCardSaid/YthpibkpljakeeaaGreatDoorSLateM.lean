import Derived.Test.YthpibkpljakeeaaGreatDoorG8
import Derived.Test.YthpibkpljakeeaaGreatDoorSwapM
namespace Go.Proofs.YthpibkpljakeeaaGreatDoor
open Go Go.RowKit
section
variable {P : Program} {ops : Array Oper} {md : Region.Mode} {W : World} {a0 : Act} {n : Nat} {S : Nat → Value → World → Prop}
def noAl : Nat → Bool := fun _ => false
theorem St.nextL {M : Nat} {listed : Array Bool} {a : Act} {w : World} {i : Nat} {o : Oper} (hdst : dstB ops n M = true) (hM : M ≤ a0.tmps.size)
   (mono : ∀ i v w w', S i v w → Below w.heap.size w w' → S i v w') (st : St ops W a0 n noAl S listed a w) (hin : i < n) (ho : ops[i]? = some o) (hil : i < listed.size)
   (v : Value) (hv : S i v w) : St ops W a0 n noAl S (listed.setIfInBounds i true) (a.put o.dst v) w := by
 obtain ⟨d, hd, hdl, hdu⟩ := dst_spec hdst hM i hin
 have hod : o.dst = some d := by unfold dstOf at hd; rw [ho] at hd; exact hd
 have hset : ∀ j, (listed.setIfInBounds i true).getD j false = true → j = i ∨ listed.getD j false = true := fun j hj => by
   by_cases e : i = j
   · exact .inl e.symm
   · rw [getD_set_ne false e] at hj; exact .inr hj
 rw [hod]
 have same : (a.put (some d) v).eval (.tmp d) = v := by
   have h1 : d < a.tmps.size := by rw [st.size]; exact hdl
   simp [Act.put, Act.eval, Array.getD, h1]
 have other : ∀ dj, d ≠ dj → (a.put (some d) v).eval (.tmp dj) = a.eval (.tmp dj) := fun dj hne => by
   simp only [Act.put, Act.eval, Array.getD_eq_getD_getElem?]
   rw [Array.getElem?_setIfInBounds_ne hne]
 have dne : ∀ j dj, j < n → j ≠ i → dstOf ops j = some dj → d ≠ dj := fun j dj hj e hdj e2 => e (hdu j hj (by rw [hdj, e2])).symm
 refine ⟨st.cl, st.df, by simp [Act.put, st.size], fun t ht => ?_, fun j hj hlj dj hdj => ?_, fun j hj hlj hja dj hdj => (by cases hja), fun j k hj hk hlj hlk hja hka hjk dj dk hdj hdk => (by cases hja)⟩
 · have hne : d ≠ t := fun e => ht i hin (by simp [hil]) (by rw [hd, e])
   show (a.tmps.setIfInBounds d v)[t]? = _
   rw [Array.getElem?_setIfInBounds_ne hne]
   exact st.frame t fun k hk hlk => ht k hk (getD_set_true hlk)
 · by_cases e : j = i
   · subst e
     obtain rfl : dj = d := Option.some.inj (hdj.symm.trans hd)
     rw [same]; exact hv
   · rw [other dj (dne j dj hj e hdj)]
     exact mono _ _ _ _ (st.vals j hj ((hset j hlj).resolve_left e) dj hdj) (Below.refl _ _)
def lateB (md : Region.Mode) (ops : Array Oper) (n M : Nat) : Bool :=
 decide (n + 1 < ops.size) && Region.chainB md ops n && backB md ops && dstB ops n M && Region.seqB md ops (ops.size - n) n (headArr n ops.size) && (List.range n).all (fun i => Region.waitsFor md ops (n + 1) i)
def Pure (P : Program) (ops : Array Oper) (md : Region.Mode) (W : World) (a0 : Act) (n : Nat) (S : Nat → Value → World → Prop) (i : Nat) (o : Oper) : Prop :=
 o.guard = none ∧ ∀ a w0 w, Cl W w0 → Fr ops n a0 a → Dp ops md n S i a w0 → ∃ v, (execOp a.eval o).run P w = .ok (.value v) w ∧ S i v w0
theorem chain_waitsL {t : Nat} (hc : Region.chainB md ops n = true) (ht : n < t) (hts : t < ops.size) : Region.waitsFor md ops t (t - 1) = true := by
 have h := List.all_eq_true.1 hc t (List.mem_range.2 hts)
 simp only [Bool.or_eq_true, decide_eq_true_eq] at h
 rcases h with h | h
 · omega
 · exact h
theorem ready_waitsL {listed : Array Bool} {i j : Nat} (hi : i ∈ Region.ready md ops listed) (hw : Region.waitsFor md ops i j = true) : listed.getD j false = true := by
 obtain ⟨_, o, ho, hall⟩ := mem_ready.1 hi
 obtain ⟨o', ho', e, he, hb, hon⟩ := Region.waitsFor_spec hw
 obtain rfl : o' = o := Option.some.inj (ho'.symm.trans ho)
 rw [← hon]; exact hall e he hb
theorem spec_late {Q : Exit → Act → World → Prop} {M : Nat} {l : List Oper} (hl : ops = l.toArray) (hB : lateB md ops n M = true) (hM : M ≤ a0.tmps.size)
   (mono : ∀ i v w w', S i v w → Below w.heap.size w w' → S i v w') (hst : ∀ i o, i < n → ops[i]? = some o → StepOk P ops md W a0 n noAl S Q i o)
   (upd : World → World) (on : Oper) (hon : ops[n]? = some on) (hg : on.guard = none)
   (hstore : ∀ (a : Act) (w : World) (K : Act → World → Prop), Cl W w → Fr ops n a0 a → (∀ j d, j < n → Region.waitsFor md ops n j = true → dstOf ops j = some d → S j (a.eval (.tmp d)) w) → K a (upd w) → on.wp P a w K Q)
   (hfree : ∀ i o, i < n → ops[i]? = some o → Region.waitsFor md ops n i = false → Pure P ops md W a0 n S i o)
   (hend : ∀ a w, St ops W a0 n noAl S (headArr n ops.size) a w → wpList P ops Q (l.drop (n + 1)) a (upd w)) :
   ∀ (F : Nat) (listed : Array Bool) (a : Act) (w : World), lacking listed.toList = F →
     ((HInv md ops 0 n listed ∧ St ops W a0 n noAl S listed a w) ∨
      (∃ listed0 w0, listed = listed0.setIfInBounds n true ∧ HInv md ops 0 n listed0 ∧ St ops W a0 n noAl S listed0 a w0 ∧ (∀ j, Region.waitsFor md ops n j = true → listed0.getD j false = true) ∧ w = upd w0)) →
     wpAny P md ops Q F listed a w := by
 simp only [lateB, Bool.and_eq_true, decide_eq_true_eq] at hB
 obtain ⟨⟨⟨⟨⟨hn, hc⟩, hback⟩, hdst⟩, hseq⟩, hsink⟩ := hB
 have hseq2 : Region.seqB md ops (ops.size - (n + 1)) (n + 1) (headArr (n + 1) ops.size) = true := by
   have e : ops.size - n = (ops.size - (n + 1)) + 1 := by omega
   rw [e, Region.seqB, Bool.and_eq_true, headArr_set (by omega)] at hseq
   exact hseq.2
 have isHead : ∀ (k : Nat) (listed : Array Bool), listed.size = ops.size → (∀ i, i < k → listed.getD i false = true) → (∀ t, k ≤ t → t < ops.size → listed.getD t true = false) → listed = headArr k ops.size := fun k listed hsz h1 h2 => by
   apply Array.ext
   · simp [headArr, hsz]
     by_cases h : k ≤ ops.size
     · omega
     · exfalso
       have := h1 ops.size (by omega)
       rw [Array.getD_eq_getD_getElem?, Array.getElem?_eq_none (by omega)] at this
       cases this
   intro i h3 h4
   by_cases hik : i < k
   · have := h1 i hik
     have h5 : (headArr k ops.size)[i] = true := by
       simp [headArr, List.getElem_append_left, hik]
     rw [h5]
     simpa [h3] using this
   · have := h2 i (by omega) (by omega)
     have h5 : (headArr k ops.size)[i] = false := by
       simp only [headArr, List.getElem_toArray]
       rw [List.getElem_append_right (by simp; omega)]
       simp
     rw [h5]
     simpa [h3] using this
 have lackAt : ∀ (listed : Array Bool) (i : Nat), listed.getD i true = false → listed.toList[i]? = some false := fun listed i h => by
   rw [Array.getD_eq_getD_getElem?] at h
   rw [Array.getElem?_toList]
   cases h3 : listed[i]? with
   | none => rw [h3] at h; simp at h
   | some b => rw [h3] at h; simp at h; rw [h]
 have lackSet : ∀ (listed : Array Bool) (i F : Nat), listed.getD i true = false → lacking listed.toList = F + 1 → lacking (listed.setIfInBounds i true).toList = F := fun listed i F h hF => by
   have := lacking_set _ i (lackAt listed i h)
   have e : (listed.setIfInBounds i true).toList = listed.toList.set i true := by simp
   rw [e]; omega
 have runTail : ∀ (k : Nat) (a : Act) (w : World), k ≤ ops.size → Region.seqB md ops (ops.size - k) k (headArr k ops.size) = true → wpList P ops Q (l.drop k) a w → wpAny P md ops Q (lacking (headArr k ops.size).toList) (headArr k ops.size) a w := fun k a w hk hs h => by
   have hlen : (l.drop k).length = ops.size - k := by rw [hl]; simp
   have h3 := wpAny_of_seq (P := P) (ops := ops) (md := md) (Q' := Q) (l.drop k) k (headArr k ops.size) a w (fun j => by rw [hl]; simp [List.getElem?_drop]) (by rw [hlen]; exact hs) h
   rw [hlen] at h3
   have hg : lacking (headArr k ops.size).toList = ops.size - k := lacking_head k _
   rw [hg]; exact h3
 have doStore : ∀ (a : Act) (w : World) (K : Act → World → Prop), Cl W w → Fr ops n a0 a → (∀ j d, j < n → Region.waitsFor md ops n j = true → dstOf ops j = some d → S j (a.eval (.tmp d)) w) → K a (upd w) → wpOp P ops Q n K a w := fun a w K h1 h2 h3 h4 => by
   unfold wpOp
   simp only [hon]
   rw [if_pos (by simp [Region.wanted, hg])]
   exact .inl (hstore a w K h1 h2 h3 h4)
 intro F
 induction F with
 | zero =>
   intro listed a w hF hI
   exfalso
   have hun : listed.getD (n + 1) true = false := by
     rcases hI with ⟨inv, _⟩ | ⟨l0, _, rfl, inv, _⟩
     · exact inv.inv.tail (n + 1) (by omega) hn
     · rw [getD_set_ne true (by omega)]
       exact inv.inv.tail (n + 1) (by omega) hn
   have := lacking_set _ (n + 1) (lackAt listed _ hun)
   omega
 | succ F ih =>
   intro listed a w hF hI
   rcases hI with ⟨inv, st⟩ | ⟨listed0, w0, rfl, inv, st, hdeps, rfl⟩
   · have hsz := inv.inv.size
     by_cases hall : ∀ i, i < n → listed.getD i false = true
     · have e := isHead n listed hsz hall (fun t h1 h2 => inv.inv.tail t h1 h2)
       subst e
       rw [← hF]
       refine runTail n a w (by omega) hseq ?_
       have hln : l.drop n = on :: l.drop (n + 1) := by
         have h2 : l[n]? = some on := by rw [hl] at hon; simpa using hon
         obtain ⟨h3, h4⟩ := List.getElem?_eq_some_iff.1 h2
         rw [List.drop_eq_getElem_cons h3, h4]
       rw [hln]
       refine wpList_plain hg fun K hK => ?_
       exact hstore a w K st.cl (fun t ht => st.frame t (fun j hj _ => ht j hj)) (fun j d hj _ hd => st.vals j hj (head_true hj) d hd) (hK _ _ (hend a w st))
     · have hex : ∃ i, i < n ∧ listed.getD i false = false := by
         refine Classical.byContradiction fun hno => hall fun j hj => ?_
         cases h : listed.getD j false with
         | true => rfl
         | false => exact absurd ⟨j, hj, h⟩ hno
       obtain ⟨i0, hi0, hl0⟩ := hex
       obtain ⟨j0, _, hr0⟩ := first_ready (md := md) hback hsz i0 (by omega) hl0
       refine ⟨fun h => absurd hr0 (by rw [h]; simp), fun i hir => ?_⟩
       obtain ⟨hun, o, ho, hafter⟩ := mem_ready.1 hir
       have hil : i < listed.size := by
         have := (Array.getElem?_eq_some_iff.1 ho).1
         omega
       by_cases hin : i < n
       · exact St.step hdst hM mono (hst i o hin ho) st hin ho hil (fun j hw => ready_waitsL hir hw) _ (fun a' w' st' => ih _ _ _ (lackSet _ _ _ hun hF) (.inl ⟨inv.set hir hin, st'⟩))
       · by_cases e : i = n
         · subst e
           refine doStore a w _ st.cl (fun t ht => st.frame t (fun j hj _ => ht j hj)) (fun j d hj hw hd => st.vals j hj (ready_waitsL hir hw) d hd) ?_
           exact ih _ _ _ (lackSet _ _ _ hun hF) (.inr ⟨listed, w, rfl, inv, st, fun j hw => ready_waitsL hir hw, rfl⟩)
         · exfalso
           have h2 := ready_waitsL hir (chain_waitsL hc (by omega) (by omega))
           have h3 := inv.inv.tail (i - 1) (by omega) (by omega)
           rw [getD_both h3] at h2; cases h2
   · have hsz := inv.inv.size
     have hnot : ∀ j, j ≠ n → ∀ d, (listed0.setIfInBounds n true).getD j d = listed0.getD j d := fun j hj d => getD_set_ne d (Ne.symm hj)
     by_cases hall : ∀ i, i < n → listed0.getD i false = true
     · have e := isHead n listed0 hsz hall (fun t h1 h2 => inv.inv.tail t h1 h2)
       subst e
       rw [headArr_set (by omega)] at hF ⊢
       rw [← hF]
       exact runTail (n + 1) a _ (by omega) hseq2 (hend a w0 st)
     · have hex : ∃ i, i < n ∧ listed0.getD i false = false := by
         refine Classical.byContradiction fun hno => hall fun j hj => ?_
         cases h : listed0.getD j false with
         | true => rfl
         | false => exact absurd ⟨j, hj, h⟩ hno
       obtain ⟨i0, hi0, hl0⟩ := hex
       obtain ⟨j0, _, hr0⟩ := first_ready (md := md) (listed := listed0.setIfInBounds n true) hback (by simp [hsz]) i0 (by omega) (by rw [hnot i0 (by omega)]; exact hl0)
       refine ⟨fun h => absurd hr0 (by rw [h]; simp), fun i hir => ?_⟩
       obtain ⟨hun, o, ho, hafter⟩ := mem_ready.1 hir
       have his : i < ops.size := (Array.getElem?_eq_some_iff.1 ho).1
       have hine : i ≠ n := fun e => by
         subst e
         rw [Array.getD_eq_getD_getElem?, Array.getElem?_setIfInBounds_self_of_lt (by omega)] at hun
         cases hun
       have hun0 : listed0.getD i true = false := by rw [← hnot i hine true]; exact hun
       by_cases hin : i < n
       · have hfr : Region.waitsFor md ops n i = false := by
           cases h : Region.waitsFor md ops n i with
           | false => rfl
           | true => have := hdeps i h; rw [getD_both hun0] at this; cases this
         obtain ⟨hgd, hrun⟩ := hfree i o hin ho hfr
         have hwait : ∀ j, Region.waitsFor md ops i j = true → listed0.getD j false = true := fun j hw => by
           have h2 := ready_waitsL hir hw
           have h3 : j ≠ n := fun e => by
             obtain ⟨o', ho', e', he', hb', hon'⟩ := Region.waitsFor_spec hw
             have h4 := List.all_eq_true.1 hback i (List.mem_range.2 his)
             rw [ho'] at h4
             have h5 := Array.all_eq_true_iff_forall_mem.1 h4 e' he'
             rw [hb'] at h5
             simp at h5
             omega
           rw [hnot j h3] at h2; exact h2
         obtain ⟨v, hv1, hv2⟩ := hrun a w0 (upd w0) st.cl (fun t ht => st.frame t (fun j hj _ => ht j hj)) (fun j dj hj hw hdj => st.vals j hj (hwait j hw) dj hdj)
         have st2 := St.nextL hdst hM mono st hin ho (by omega) v hv2
         refine op_val ho hgd hv1 ?_
         have ecomm : (listed0.setIfInBounds n true).setIfInBounds i true = (listed0.setIfInBounds i true).setIfInBounds n true := Array.setIfInBounds_comm _ _ (Ne.symm hine)
         have hir0 : i ∈ Region.ready md ops listed0 := mem_ready.2 ⟨hun0, o, ho, fun e he hb => hwait e.on (waits_of ho he hb)⟩
         exact ih _ _ _ (lackSet _ _ _ hun hF) (.inr ⟨listed0.setIfInBounds i true, w0, ecomm, inv.set hir0 hin, st2, fun j hw => getD_set_true (hdeps j hw), rfl⟩)
       · exfalso
         by_cases e2 : i = n + 1
         · subst e2
           have h4 := List.all_eq_true.1 hsink i0 (List.mem_range.2 hi0)
           have h2 := ready_waitsL hir h4
           rw [hnot i0 (by omega), hl0] at h2; cases h2
         · have h2 := ready_waitsL hir (chain_waitsL hc (by omega) his)
           have h3 := inv.inv.tail (i - 1) (by omega) (by omega)
           rw [hnot (i - 1) (by omega), getD_both h3] at h2; cases h2
theorem Steps.mk {Q : Exit → Act → World → Prop} {l : List Oper} (hst : Steps P l.toArray md W a0 n noAl S Q n 0 l) : ∀ i o, i < n → l.toArray[i]? = some o → StepOk P l.toArray md W a0 n noAl S Q i o := fun i o hi ho => by
 have := Steps.at_ n 0 l hst i o hi (by simpa using ho)
 rwa [Nat.zero_add] at this
theorem region_late {id : Nat} {Q : Exit → Act → World → Prop} {l : List Oper} (n M : Nat) (Ss : List (Value → World → Prop)) (ds : List Tmp) (hds : dstsOf l.toArray n = ds) (hm : P.follows .mixedOrders = true) (hB : lateB .any l.toArray n M = true) (hM : M ≤ a0.tmps.size)
   (mono : ∀ S ∈ Ss, Grows S) (hst : Steps P l.toArray .any W a0 n noAl (sAt Ss) Q n 0 l)
   (upd : World → World) (on : Oper) (hon : l.toArray[n]? = some on) (hg : on.guard = none)
   (hstore : ∀ (a : Act) (w : World) (K : Act → World → Prop), Cl W w → Fr l.toArray n a0 a → (∀ j d, j < n → Region.waitsFor .any l.toArray n j = true → dstOf l.toArray j = some d → sAt Ss j (a.eval (.tmp d)) w) → K a (upd w) → on.wp P a w K Q)
   (hfree : ∀ i o, i < n → l.toArray[i]? = some o → Region.waitsFor .any l.toArray n i = false → Pure P l.toArray .any W a0 n (sAt Ss) i o)
   (hend : ∀ (val : Tmp → Value) w, Cl W w → (∀ i d, i < n → dstOf l.toArray i = some d → sAt Ss i (val d) w) → wpList P l.toArray Q (l.drop (n + 1)) (putVals ds val a0) (upd w)) : (Code.region id l.toArray true).wp P Q a0 W := by
 refine wp_region_any hm ?_
 have hrep : ∀ i, (Array.replicate l.toArray.size false).getD i false = false := fun i => getD_replicate_false _ _
 refine spec_late (a0 := a0) (S := sAt Ss) (l := l) rfl hB hM (fun i v w w' h1 h2 => grows_at mono i v w w' h1 h2) (Steps.mk hst) upd on hon hg hstore hfree (fun a w st => ?_) _ _ _ _ ?_ (.inl ⟨?_, ?_⟩)
 · rw [st.act, hds]
   exact hend (fun d => a.eval (.tmp d)) w st.cl (fun i d hi hd => st.at_ i d hi hd)
 · have := lacking_new l.toArray.size
   simpa using this
 · refine ⟨⟨by simp, fun j oj _ hl _ _ _ => ?_, fun t _ hts => ?_⟩, fun i hi => by omega⟩
   · rw [hrep] at hl; cases hl
   · exact getD_in (by simpa using hts) (hrep t)
 · refine ⟨Cl.drew W, rfl, rfl, fun _ _ => rfl, fun i _ h => ?_, fun i _ h => ?_, fun i j _ _ h => ?_⟩ <;> (rw [hrep] at h; cases h)
end
end Go.Proofs.YthpibkpljakeeaaGreatDoor
