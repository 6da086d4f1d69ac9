/- A region that draws its order, in which one operation turns memory; operations that need not come up before it may read what it leaves alone. -/
import Derived.Test.YtdfalneiapeegaaKGen
namespace Go.Proofs.Ytdfalneiapeegaa
open Go Go.RowKit Go.Maps

section
variable {P : Program} {ops : Array Oper} {md : Region.Mode} {W : World} {a0 : Act} {n k : Nat} {S : Nat → Value → World → Prop} {pa : Nat → Bool}
/-- An operation that says the same before the operation that turns memory and behind it. -/
def PureR (P : Program) (ops : Array Oper) (md : Region.Mode) (W : World) (a0 : Act) (n : Nat) (S : Nat → Value → World → Prop) (R : World → Value → World → Prop) (i : Nat) (o : Oper) : Prop :=
  o.guard = none ∧ ∀ a w0 w, Cl W w0 → (w = w0 ∨ ∃ u, R w0 u w) → Fr ops n a0 a → Dp ops md n S i a w0 → ∃ v, (execOp a.eval o).run P w = .ok (.value v) w ∧ S i v w0
set_option maxRecDepth 50000 in
theorem evt_anyR {Q : Exit → Act → World → Prop} {M : Nat} {l : List Oper} (hl : ops = l.toArray) (hB : evtB md ops n k M pa = true) (hM : M ≤ a0.tmps.size)
    (R : World → Value → World → Prop) (mono : ∀ i v w w', S i v w → Below w.heap.size w w' → S i v w')
    (hst : ∀ i o, i < n → i ≠ k → ops[i]? = some o → StepOk P ops md W a0 n noAlE S Q i o)
    (hpure : ∀ i o, i < n → i ≠ k → pa i = false → ops[i]? = some o → PureR P ops md W a0 n S R i o)
    (ok : Oper) (hok : ops[k]? = some ok) (hg : ok.guard = none)
    (hev : ∀ (a : Act) (w : World), Cl W w → Fr ops n a0 a → (∀ j d, j < n → Region.waitsFor md ops k j = true → dstOf ops j = some d → S j (a.eval (.tmp d)) w) → ok.wp P a w (fun a' w' => ∃ v, a' = a.put ok.dst v ∧ R w v w') Q)
    (hend : ∀ a w0 w, StE ops W a0 n k S R w0 (headArr n ops.size) a w → wpList P ops Q (l.drop n) a w) :
    ∀ (F : Nat) (listed : Array Bool) (a : Act) (w : World), lacking listed.toList = F → HInv md ops 0 n listed →
      ((listed.getD k false = false ∧ St ops W a0 n noAlE S listed a w) ∨ (listed.getD k false = true ∧ ∃ w0, StE ops W a0 n k S R w0 listed a w)) → wpAny P md ops Q F listed a w := by
  simp only [evtB, Bool.and_eq_true, decide_eq_true_eq] at hB
  obtain ⟨⟨⟨⟨⟨⟨⟨⟨⟨hkn, hn⟩, hs⟩, hc⟩, hback⟩, hdst⟩, hseq⟩, hpk⟩, hpa⟩, hfree⟩ := hB
  have hpk : pa k = false := by simpa using hpk
  have lackAt : ∀ (listed : Array Bool) (i : Nat), listed.getD i true = false → listed.toList[i]? = some false := fun listed i h => by
    rw [Array.getD_eq_getD_getElem?] at h
    rw [Array.getElem?_toList]
    cases h3 : listed[i]? with
    | none => rw [h3] at h; simp at h
    | some b => rw [h3] at h; simp at h; rw [h]
  have lackSet : ∀ (listed : Array Bool) (i F : Nat), listed.getD i true = false → lacking listed.toList = F + 1 → lacking (listed.setIfInBounds i true).toList = F := fun listed i F h hF => by
    have := lacking_set _ i (lackAt listed i h)
    have e : (listed.setIfInBounds i true).toList = listed.toList.set i true := by simp
    rw [e]; omega
  have isHead : ∀ (listed : Array Bool), HInv md ops 0 n listed → (∀ i, i < n → listed.getD i false = true) → listed = headArr n ops.size := fun listed inv hall => by
    have hsz := inv.inv.size
    apply Array.ext (by simp [headArr]; omega)
    intro i h1 h2
    by_cases hi : i < n
    · have := hall i hi
      have h3 : (headArr n ops.size)[i] = true := by simp [headArr, List.getElem_append_left, hi]
      rw [h3]; simpa [h1] using this
    · have := inv.inv.tail i (by omega) (by omega)
      have h3 : (headArr n ops.size)[i] = false := by
        simp only [headArr, List.getElem_toArray]
        rw [List.getElem_append_right (by simp; omega)]
        simp
      rw [h3]; simpa [h1] using this
  obtain ⟨dk, hdk, hdkl, hdku⟩ := dst_spec hdst hM k hkn
  have hokd : ok.dst = some dk := by unfold dstOf at hdk; rw [hok] at hdk; exact hdk
  intro F
  induction F with
  | zero =>
    intro listed a w hF inv _
    exfalso
    have h1 := inv.inv.tail n (Nat.le_refl _) hn
    have := lacking_set _ n (lackAt listed n h1)
    omega
  | succ F ih =>
    intro listed a w hF inv hI
    have hsz := inv.inv.size
    have closed : ∀ j i, listed.getD j false = true → Region.waitsFor md ops j i = true → listed.getD i false = true := fun j i hj hw => by
      obtain ⟨o', ho', e, he, hb, hon⟩ := Region.waitsFor_spec hw
      rw [← hon]; exact inv.inv.closed j o' ho' hj e he hb
    by_cases hall : ∀ i, i < n → listed.getD i false = true
    · rcases hI with ⟨h0, _⟩ | ⟨_, w0, st⟩
      · rw [hall k hkn] at h0; cases h0
      · have e := isHead listed inv hall
        subst e
        have hg' : lacking (headArr n ops.size).toList = ops.size - n := lacking_head n _
        have hlen : (l.drop n).length = ops.size - n := by rw [hl]; simp
        have h3 := wpAny_of_seq (P := P) (ops := ops) (md := md) (Q' := Q) (l.drop n) n (headArr n ops.size) a w (fun j => by rw [hl]; simp [List.getElem?_drop]) (by rw [hlen]; exact hseq) (hend a w0 w st)
        rw [hlen, ← hg', hF] at h3
        exact h3
    · have hex : ∃ i, i < n ∧ listed.getD i false = false := by
        refine Classical.byContradiction fun hno => hall fun j hj => ?_
        cases h : listed.getD j false with
        | true => rfl
        | false => exact absurd ⟨j, hj, h⟩ hno
      obtain ⟨i0, hi0, hl0⟩ := hex
      obtain ⟨j0, _, hr0⟩ := first_ready (md := md) hback hsz i0 (by omega) hl0
      refine ⟨fun h => absurd hr0 (by rw [h]; simp), fun i hir => ?_⟩
      have hin : i < n := Nat.lt_of_not_le fun h => tail_later hs hc inv _ i0 rfl hi0 (getD_in (by omega) hl0) i h hir
      obtain ⟨hun, o, ho, hafter⟩ := mem_ready.1 hir
      have hFn := lackSet _ i F hun hF
      have hil : i < listed.size := by
        have := (Array.getElem?_eq_some_iff.1 ho).1
        omega
      have hset : ∀ j, (listed.setIfInBounds i true).getD j false = true → j = i ∨ listed.getD j false = true := fun j hj => by
        by_cases e : i = j
        · exact .inl e.symm
        · rw [getD_set_ne false e] at hj; exact .inr hj
      have hself : (listed.setIfInBounds i true).getD i false = true := by simp [hil]
      rcases hI with ⟨h0, st⟩ | ⟨h1, w0, st⟩
      · by_cases e : i = k
        · subst e
          obtain rfl : ok = o := Option.some.inj (hok.symm.trans ho)
          have hv := hev a w st.cl (fun t ht => st.frame t (fun j hj _ => ht j hj)) (fun j d hj hw hd => st.vals j hj (ready_waitsE hir hw) d hd)
          unfold wpOp
          simp only [ho]
          rw [if_pos (by simp [Region.wanted, hg])]
          refine .inl (Oper.wp_mono (fun a' w' h' => ?_) hv)
          obtain ⟨v, rfl, hR⟩ := h'
          refine ih _ _ _ hFn (inv.set hir hin) (.inr ⟨hself, w, ?_⟩)
          rw [hokd]
          have same : (a.put (some dk) v).eval (.tmp dk) = v := by
            have h1 : dk < a.tmps.size := by rw [st.size]; exact hdkl
            simp [Act.put, Act.eval, Array.getD, h1]
          have other : ∀ dj, dk ≠ dj → (a.put (some dk) v).eval (.tmp dj) = a.eval (.tmp dj) := fun dj hne => by
            simp only [Act.put, Act.eval, Array.getD_eq_getD_getElem?]
            rw [Array.getElem?_setIfInBounds_ne hne]
          refine ⟨st.cl, st.df, by simp [Act.put, st.size], fun t ht => ?_, fun j hj hjk hlj dj hdj => ?_, fun d hd => ?_⟩
          · have hne : dk ≠ t := fun e => ht i hin hself (by rw [hdk, e])
            show (a.tmps.setIfInBounds dk v)[t]? = _
            rw [Array.getElem?_setIfInBounds_ne hne]
            exact st.frame t fun q hq hlq => ht q hq (getD_set_true hlq)
          · rw [other dj (fun e => hjk (hdku j hj (by rw [hdj, e])).symm)]
            exact st.vals j hj ((hset j hlj).resolve_left hjk) dj hdj
          · obtain rfl : d = dk := Option.some.inj (hd.symm.trans hdk)
            rw [same]; exact hR
        · refine St.step hdst hM mono (hst i o hin e ho) st hin ho hil (fun j hw => ready_waitsE hir hw) _ (fun a' w' st' => ih _ _ _ hFn (inv.set hir hin) (.inl ⟨?_, st'⟩))
          rw [getD_set_ne false e]; exact h0
      · have hik : i ≠ k := fun e => by subst e; rw [getD_both hun] at h1; cases h1
        have hpi : pa i = false := by
          cases h : pa i with
          | false => rfl
          | true =>
            have := pa_listed (listed := listed) hpa closed (fun q hq => closed k q h1 hq) _ i rfl hin h
            rw [getD_both hun] at this; cases this
        obtain ⟨hgi, hrun⟩ := hpure i o hin hik hpi ho
        have hnk : ∀ j, Region.waitsFor md ops i j = true → j ≠ k := fun j hw e => by
          subst e
          have h2 := List.all_eq_true.1 hfree i (List.mem_range.2 hin)
          simp [hpi, hik, hw] at h2
        obtain ⟨d, hd, hdl, hdu⟩ := dst_spec hdst hM i hin
        have hod : o.dst = some d := by unfold dstOf at hd; rw [ho] at hd; exact hd
        obtain ⟨v, hv1, hv2⟩ := hrun a w0 w st.cl (.inr ⟨_, st.evt dk hdk⟩) (fun t ht => st.frame t (fun j hj _ => ht j hj)) (fun j dj hj hw hdj => st.vals j hj (hnk j hw) (ready_waitsE hir hw) dj hdj)
        refine op_valS ho hgi hv1 ?_
        refine ih _ _ _ hFn (inv.set hir hin) (.inr ⟨getD_set_true h1, w0, ?_⟩)
        rw [hod]
        have same : (a.put (some d) v).eval (.tmp d) = v := by
          have h1 : d < a.tmps.size := by rw [st.size]; exact hdl
          simp [Act.put, Act.eval, Array.getD, h1]
        have other : ∀ dj, d ≠ dj → (a.put (some d) v).eval (.tmp dj) = a.eval (.tmp dj) := fun dj hne => by
          simp only [Act.put, Act.eval, Array.getD_eq_getD_getElem?]
          rw [Array.getElem?_setIfInBounds_ne hne]
        have dne : ∀ j dj, j < n → j ≠ i → dstOf ops j = some dj → d ≠ dj := fun j dj hj e hdj e2 => e (hdu j hj (by rw [hdj, e2])).symm
        refine ⟨st.cl, st.df, by simp [Act.put, st.size], fun t ht => ?_, fun j hj hjk hlj dj hdj => ?_, fun dd hdd => ?_⟩
        · have hne : d ≠ t := fun e => ht i hin hself (by rw [hd, e])
          show (a.tmps.setIfInBounds d v)[t]? = _
          rw [Array.getElem?_setIfInBounds_ne hne]
          exact st.frame t fun q hq hlq => ht q hq (getD_set_true hlq)
        · by_cases e : j = i
          · subst e
            obtain rfl : dj = d := Option.some.inj (hdj.symm.trans hd)
            rw [same]; exact hv2
          · rw [other dj (dne j dj hj e hdj)]
            exact st.vals j hj hjk ((hset j hlj).resolve_left e) dj hdj
        · rw [other dd (dne k dd hkn (Ne.symm hik) hdd)]
          exact st.evt dd hdd

/-- The steps of all but the operation k; those that need not come up before it need no memory. -/
def StepsR (P : Program) (ops : Array Oper) (md : Region.Mode) (W : World) (a0 : Act) (n k : Nat) (pa : Nat → Bool) (S : Nat → Value → World → Prop) (R : World → Value → World → Prop) (Q : Exit → Act → World → Prop) : Nat → Nat → List Oper → Prop
  | 0, _, _ => True
  | _ + 1, _, [] => True
  | m + 1, i, o :: l => (i = k ∨ (pa i = true ∧ StepOk P ops md W a0 n noAlE S Q i o) ∨ (pa i = false ∧ PureR P ops md W a0 n S R i o)) ∧ StepsR P ops md W a0 n k pa S R Q m (i + 1) l
set_option maxRecDepth 50000 in
theorem StepsR.at_ {R : World → Value → World → Prop} {Q : Exit → Act → World → Prop} : ∀ (m i : Nat) (l : List Oper), StepsR P ops md W a0 n k pa S R Q m i l → ∀ j o, j < m → l[j]? = some o → (i + j = k ∨ (pa (i + j) = true ∧ StepOk P ops md W a0 n noAlE S Q (i + j) o) ∨ (pa (i + j) = false ∧ PureR P ops md W a0 n S R (i + j) o))
  | 0, _, _, _, _, _, hi, _ => by omega
  | m + 1, i, [], _, j, o, _, ho => by simp at ho
  | m + 1, i, o' :: l, h, 0, o, _, ho => by
    simp at ho; subst ho; exact h.1
  | m + 1, i, o' :: l, h, j + 1, o, hj, ho => by
    have := StepsR.at_ m (i + 1) l h.2 j o (by omega) (by simpa using ho)
    rw [show i + (j + 1) = i + 1 + j by omega]; exact this
set_option maxRecDepth 50000 in
theorem PureR.step {R : World → Value → World → Prop} {Q : Exit → Act → World → Prop} {i : Nat} {o : Oper} (h : PureR P ops md W a0 n S R i o) : StepOk P ops md W a0 n noAlE S Q i o :=
  step_run rfl (.inl h.1) fun a w hw hf hd => h.2 a w w hw (.inl rfl) hf hd
set_option maxRecDepth 50000 in
/-- The region, with the act at the end written out. -/
theorem region_evtR {id : Nat} {Q : Exit → Act → World → Prop} {l : List Oper} (n k M : Nat) (pas : List Bool) (Ss : List (Value → World → Prop)) (ds : List Tmp) (R : World → Value → World → Prop) (hds : dstsOf l.toArray n = ds) (hm : P.follows .mixedOrders = true) (hB : evtB .any l.toArray n k M (fun i => pas.getD i false) = true) (hM : M ≤ a0.tmps.size)
    (mono : ∀ S ∈ Ss, Grows S) (hst : StepsR P l.toArray .any W a0 n k (fun i => pas.getD i false) (sAt Ss) R Q n 0 l)
    (ok : Oper) (hok : l.toArray[k]? = some ok) (hg : ok.guard = none)
    (hev : ∀ (a : Act) (w : World), Cl W w → Fr l.toArray n a0 a → (∀ j d, j < n → Region.waitsFor .any l.toArray k j = true → dstOf l.toArray j = some d → sAt Ss j (a.eval (.tmp d)) w) → ok.wp P a w (fun a' w' => ∃ v, a' = a.put ok.dst v ∧ R w v w') Q)
    (hend : ∀ (val : Tmp → Value) w0 w, Cl W w0 → (∀ i d, i < n → i ≠ k → dstOf l.toArray i = some d → sAt Ss i (val d) w0) → (∀ d, dstOf l.toArray k = some d → R w0 (val d) w) → wpList P l.toArray Q (l.drop n) (putVals ds val a0) w) : (Code.region id l.toArray true).wp P Q a0 W := by
  refine wp_region_any hm ?_
  have hrep : ∀ i, (Array.replicate l.toArray.size false).getD i false = false := fun i => getD_replicate_false _ _
  have hat : ∀ i o, i < n → l.toArray[i]? = some o → _ := fun i o hi ho => by
    have := StepsR.at_ n 0 l hst i o hi (by simpa using ho)
    rw [Nat.zero_add] at this
    exact this
  refine evt_anyR (a0 := a0) (S := sAt Ss) (l := l) rfl hB hM R (fun i v w w' h1 h2 => grows_at mono i v w w' h1 h2) (fun i o hi hik ho => ?_) (fun i o hi hik hpi ho => ?_) ok hok hg hev (fun a w0 w st => ?_) _ _ _ _ ?_ ?_ (.inl ⟨hrep k, ?_⟩)
  · rcases hat i o hi ho with h | ⟨_, h⟩ | ⟨_, h⟩
    · exact absurd h hik
    · exact h
    · exact h.step
  · rcases hat i o hi ho with h | ⟨h, _⟩ | ⟨_, h⟩
    · exact absurd h hik
    · rw [hpi] at h; cases h
    · exact h
  · rw [act_ofE st.df st.size (fun t ht => st.frame t (fun i hi _ => ht i hi)), hds]
    exact hend (fun d => a.eval (.tmp d)) w0 w st.cl (fun i d hi hik hd => st.vals i hi hik (head_true hi) d hd) (fun d hd => st.evt d hd)
  · have := lacking_new l.toArray.size
    simpa using this
  · refine ⟨⟨by simp, fun j oj _ hl _ _ _ => ?_, fun t _ hts => ?_⟩, fun i hi => by omega⟩
    · rw [hrep] at hl; cases hl
    · exact getD_in (by simpa using hts) (hrep t)
  · refine ⟨Cl.drew W, rfl, rfl, fun _ _ => rfl, fun i _ h => ?_, fun i _ h => ?_, fun i j _ _ h => ?_⟩ <;> (rw [hrep] at h; cases h)
end
end Go.Proofs.Ytdfalneiapeegaa
