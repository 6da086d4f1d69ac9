/- A region that draws its order, whose operations make memory and change none: each operation is told by what is true of its value, whatever came up before it but for what it waits for. Behind them a tail in one forced order. No program is named. -/
import Derived.Test.YtdfalneiapeegaaFloat
namespace Go.Proofs.Ytdfalneiapeegaa
open Go Go.RowKit

section
variable {P : Program} {ops : Array Oper} {md : Region.Mode} {W : World} {a0 : Act} {n : Nat}

def dstOf (ops : Array Oper) (i : Nat) : Option Tmp := (ops[i]?).bind (·.dst)
/-- How many have not come up. -/
def lacking : List Bool → Nat
  | [] => 0
  | true :: l => lacking l
  | false :: l => lacking l + 1
theorem lacking_set : ∀ (l : List Bool) (i : Nat), l[i]? = some false → lacking (l.set i true) + 1 = lacking l
  | [], i, h => by simp at h
  | b :: l, 0, h => by simp at h; subst h; rfl
  | b :: l, i + 1, h => by
    have := lacking_set l i (by simpa using h)
    cases b <;> simp [List.set, lacking] <;> omega
theorem lacking_new : ∀ n, lacking (List.replicate n false) = n
  | 0 => rfl
  | n + 1 => by rw [List.replicate_succ, lacking, lacking_new n]
theorem lacking_head : ∀ n g, lacking (List.replicate n true ++ List.replicate g false) = g
  | 0, g => by simpa using lacking_new g
  | n + 1, g => by rw [List.replicate_succ, List.cons_append, lacking, lacking_head n g]
/-- The first n have come up, and no other. -/
def headArr (n s : Nat) : Array Bool := (List.replicate n true ++ List.replicate (s - n) false).toArray

theorem head_true {n s i : Nat} (hi : i < n) : (headArr n s).getD i false = true := by
  have h : (headArr n s)[i]? = some true := by
    simp only [headArr, List.getElem?_toArray]
    rw [List.getElem?_append_left (by simpa using hi)]
    simp [hi]
  rw [Array.getD_eq_getD_getElem?, h]; rfl
/-- The block that a value leads to. -/
def home : Value → Option Nat
  | .pointer (some a) => some a.block
  | .slice (some a) _ _ => some a.block
  | _ => none
/-- What stands when some have come up. -/
structure St (ops : Array Oper) (W : World) (a0 : Act) (n : Nat) (al : Nat → Bool) (S : Nat → Value → World → Prop) (listed : Array Bool) (a : Act) (w : World) : Prop where
  cl : Cl W w
  df : a.defers = a0.defers
  size : a.tmps.size = a0.tmps.size
  frame : ∀ t, (∀ i, i < n → listed.getD i false = true → dstOf ops i ≠ some t) → a.tmps[t]? = a0.tmps[t]?
  vals : ∀ i, i < n → listed.getD i false = true → ∀ d, dstOf ops i = some d → S i (a.eval (.tmp d)) w
  laid : ∀ i, i < n → listed.getD i false = true → al i = true → ∀ d, dstOf ops i = some d → ∃ b, home (a.eval (.tmp d)) = some b ∧ W.heap.size ≤ b ∧ b < w.heap.size
  apart : ∀ i j, i < n → j < n → listed.getD i false = true → listed.getD j false = true → al i = true → al j = true → i ≠ j → ∀ d d', dstOf ops i = some d → dstOf ops j = some d' → home (a.eval (.tmp d)) ≠ home (a.eval (.tmp d'))

/-- An operation that does as it is told, whatever came up before it but for what it waits for. -/
def StepOk (P : Program) (ops : Array Oper) (md : Region.Mode) (W : World) (a0 : Act) (n : Nat) (al : Nat → Bool) (S : Nat → Value → World → Prop) (Q : Exit → Act → World → Prop) (i : Nat) (o : Oper) : Prop :=
  ∀ a w, Cl W w → (∀ t, (∀ j, j < n → dstOf ops j ≠ some t) → a.tmps[t]? = a0.tmps[t]?) → (∀ j d, j < n → Region.waitsFor md ops i j = true → dstOf ops j = some d → S j (a.eval (.tmp d)) w) →
    if Region.wanted o (yielded ops a.tmps) = true then o.wp P a w (fun a' w' => ∃ v, a' = a.put o.dst v ∧ S i v w' ∧ Below w.heap.size w w' ∧ (al i = true → ∃ b, home v = some b ∧ w.heap.size ≤ b ∧ b < w'.heap.size)) Q else S i undef w ∧ al i = false

def backB (md : Region.Mode) (ops : Array Oper) : Bool := (List.range ops.size).all fun i => match ops[i]? with
  | some o => o.after.all fun e => !Region.binds md e || decide (e.on < i)
  | none => true
def dstB (ops : Array Oper) (n M : Nat) : Bool := (List.range n).all (fun i => match dstOf ops i with
  | some d => decide (d < M) && (List.range n).all (fun j => decide (i = j) || !(dstOf ops j == some d))
  | none => false)
/-- All that the kernel has to look at. -/
def specB (md : Region.Mode) (ops : Array Oper) (n M : Nat) : Bool :=
  decide (n < ops.size) && sinkF md ops 0 n && Region.chainB md ops n && backB md ops && dstB ops n M && Region.seqB md ops (ops.size - n) n (headArr n ops.size)

theorem waits_of {i : Nat} {o : Oper} (ho : ops[i]? = some o) {e : Edge} (he : e ∈ o.after) (hb : Region.binds md e = true) : Region.waitsFor md ops i e.on = true := by
  unfold Region.waitsFor
  rw [ho]
  simp only [Array.any_eq_true]
  obtain ⟨k, hk, rfl⟩ := Array.mem_iff_getElem.1 he
  exact ⟨k, hk, by simp [hb]⟩
theorem first_ready (hb : backB md ops = true) {listed : Array Bool} (hs : listed.size = ops.size) : ∀ (i : Nat), i < ops.size → listed.getD i false = false → ∃ j, j ≤ i ∧ j ∈ Region.ready md ops listed := by
  intro i
  induction i using Nat.strongRecOn with
  | _ i ih =>
    intro hi hl
    by_cases hall : ∀ j, j < i → listed.getD j false = true
    · refine ⟨i, Nat.le_refl _, mem_ready.2 ⟨getD_in (by omega) hl, ops[i], by simp [hi], fun e he hbd => hall e.on ?_⟩⟩
      have h1 := List.all_eq_true.1 hb i (List.mem_range.2 hi)
      have h2 : ops[i]? = some ops[i] := by simp [hi]
      rw [h2] at h1
      have h3 := Array.all_eq_true_iff_forall_mem.1 h1 e he
      rw [hbd] at h3
      simpa using h3
    · have : ∃ j, j < i ∧ listed.getD j false = false := by
        refine Classical.byContradiction fun hno => hall fun j hj => ?_
        cases h : listed.getD j false with
        | true => rfl
        | false => exact absurd ⟨j, hj, h⟩ hno
      obtain ⟨j, hj, h⟩ := this
      obtain ⟨k, hk, hr⟩ := ih j hj (by omega) h
      exact ⟨k, by omega, hr⟩

theorem dst_spec {M : Nat} (hdst : dstB ops n M = true) (hM : M ≤ a0.tmps.size) : ∀ i, i < n → ∃ d, dstOf ops i = some d ∧ d < a0.tmps.size ∧ ∀ j, j < n → dstOf ops j = some d → i = j := fun i hi => by
  have h := List.all_eq_true.1 hdst i (List.mem_range.2 hi)
  cases hd : dstOf ops i with
  | none => rw [hd] at h; cases h
  | some d =>
    rw [hd] at h
    dsimp only at h
    rw [Bool.and_eq_true, decide_eq_true_eq] at h
    refine ⟨d, rfl, Nat.lt_of_lt_of_le h.1 hM, fun j hj hdj => ?_⟩
    have h2 := List.all_eq_true.1 h.2 j (List.mem_range.2 hj)
    simp only [Bool.or_eq_true, decide_eq_true_eq, Bool.not_eq_true', hdj] at h2
    rcases h2 with h2 | h2
    · exact h2
    · simp at h2
theorem St.step {al : Nat → Bool} {S : Nat → Value → World → Prop} {M : Nat} {Q : Exit → Act → World → Prop} {listed : Array Bool} {a : Act} {w : World} {i : Nat} {o : Oper} (hdst : dstB ops n M = true) (hM : M ≤ a0.tmps.size)
    (mono : ∀ i v w w', S i v w → Below w.heap.size w w' → S i v w') (hst : StepOk P ops md W a0 n al S Q i o) (st : St ops W a0 n al S listed a w) (hin : i < n) (ho : ops[i]? = some o) (hil : i < listed.size)
    (hdeps : ∀ j, Region.waitsFor md ops i j = true → listed.getD j false = true) (K : Act → World → Prop) (hK : ∀ a' w', St ops W a0 n al S (listed.setIfInBounds i true) a' w' → K a' w') : wpOp P ops Q i K a w := by
  obtain ⟨d, hd, hdl, hdu⟩ := dst_spec hdst hM i hin
  have hod : o.dst = some d := by unfold dstOf at hd; rw [ho] at hd; exact hd
  have hstep := hst a w st.cl (fun t ht => st.frame t (fun j hj _ => ht j hj)) (fun j dj hj hw hdj => st.vals j hj (hdeps j hw) dj hdj)
  have hset : ∀ j, (listed.setIfInBounds i true).getD j false = true → j = i ∨ listed.getD j false = true := fun j hj => by
    by_cases e : i = j
    · exact .inl e.symm
    · rw [getD_set_ne false e] at hj; exact .inr hj
  have next : ∀ v w', S i v w' → Below w.heap.size w w' → (al i = true → ∃ b, home v = some b ∧ w.heap.size ≤ b ∧ b < w'.heap.size) → St ops W a0 n al S (listed.setIfInBounds i true) (a.put o.dst v) w' := fun v w' hv hb hal => by
    rw [hod]
    have same : (a.put (some d) v).eval (.tmp d) = v := by
      have h1 : d < a.tmps.size := by rw [st.size]; exact hdl
      simp [Act.put, Act.eval, Array.getD, h1]
    have other : ∀ dj, d ≠ dj → (a.put (some d) v).eval (.tmp dj) = a.eval (.tmp dj) := fun dj hne => by
      simp only [Act.put, Act.eval, Array.getD_eq_getD_getElem?]
      rw [Array.getElem?_setIfInBounds_ne hne]
    have dne : ∀ j dj, j < n → j ≠ i → dstOf ops j = some dj → d ≠ dj := fun j dj hj e hdj e2 => e (hdu j hj (by rw [hdj, e2])).symm
    refine ⟨st.cl.next hb, st.df, by simp [Act.put, st.size], fun t ht => ?_, fun j hj hlj dj hdj => ?_, fun j hj hlj hja dj hdj => ?_, fun j k hj hk hlj hlk hja hka hjk dj dk hdj hdk => ?_⟩
    · have hne : d ≠ t := fun e => ht i hin (by simp [hil]) (by rw [hd, e])
      show (a.tmps.setIfInBounds d v)[t]? = _
      rw [Array.getElem?_setIfInBounds_ne hne]
      exact st.frame t fun k hk hlk => ht k hk (getD_set_true hlk)
    · by_cases e : j = i
      · subst e
        obtain rfl : dj = d := Option.some.inj (hdj.symm.trans hd)
        rw [same]; exact hv
      · rw [other dj (dne j dj hj e hdj)]
        exact mono _ _ _ _ (st.vals j hj ((hset j hlj).resolve_left e) dj hdj) hb
    · by_cases e : j = i
      · subst e
        obtain rfl : dj = d := Option.some.inj (hdj.symm.trans hd)
        rw [same]
        obtain ⟨b, h1, h2, h3⟩ := hal hja
        exact ⟨b, h1, Nat.le_trans (Below.size st.cl) h2, h3⟩
      · rw [other dj (dne j dj hj e hdj)]
        obtain ⟨b, h1, h2, h3⟩ := st.laid j hj ((hset j hlj).resolve_left e) hja dj hdj
        exact ⟨b, h1, h2, Nat.lt_of_lt_of_le h3 hb.size⟩
    · by_cases e : j = i
      · subst e
        obtain rfl : dj = d := Option.some.inj (hdj.symm.trans hd)
        have e2 : k ≠ j := Ne.symm hjk
        rw [same, other dk (dne k dk hk e2 hdk)]
        obtain ⟨b, h1, h2, _⟩ := hal hja
        obtain ⟨b', h1', _, h3'⟩ := st.laid k hk ((hset k hlk).resolve_left e2) hka dk hdk
        rw [h1, h1']
        intro h; injection h with h; omega
      · by_cases e2 : k = i
        · subst e2
          obtain rfl : dk = d := Option.some.inj (hdk.symm.trans hd)
          rw [same, other dj (dne j dj hj e hdj)]
          obtain ⟨b, h1, h2, _⟩ := hal hka
          obtain ⟨b', h1', _, h3'⟩ := st.laid j hj ((hset j hlj).resolve_left e) hja dj hdj
          rw [h1, h1']
          intro h; injection h with h; omega
        · rw [other dj (dne j dj hj e hdj), other dk (dne k dk hk e2 hdk)]
          exact st.apart j k hj hk ((hset j hlj).resolve_left e) ((hset k hlk).resolve_left e2) hja hka hjk dj dk hdj hdk
  unfold wpOp
  simp only [ho]
  split at hstep
  · rename_i hw
    rw [if_pos hw]
    left
    refine Oper.wp_mono (fun a' w' h' => ?_) hstep
    obtain ⟨v, rfl, hv, hb, hal⟩ := h'
    exact hK _ _ (next v w' hv hb hal)
  · rename_i hw
    rw [if_neg hw]
    exact hK _ _ (next undef w hstep.1 (Below.refl _ _) (fun h => by rw [hstep.2] at h; cases h))
theorem spec_any {al : Nat → Bool} {S : Nat → Value → World → Prop} {M : Nat} {Q : Exit → Act → World → Prop} {l : List Oper} (hl : ops = l.toArray) (hB : specB md ops n M = true) (hM : M ≤ a0.tmps.size)
    (mono : ∀ i v w w', S i v w → Below w.heap.size w w' → S i v w') (hst : ∀ i o, i < n → ops[i]? = some o → StepOk P ops md W a0 n al S Q i o)
    (hend : ∀ a w, St ops W a0 n al S (headArr n ops.size) a w → wpList P ops Q (l.drop n) a w) :
    ∀ (F : Nat) (listed : Array Bool) (a : Act) (w : World), lacking listed.toList = F → HInv md ops 0 n listed → St ops W a0 n al S listed a w → wpAny P md ops Q F listed a w := by
  simp only [specB, Bool.and_eq_true, decide_eq_true_eq] at hB
  obtain ⟨⟨⟨⟨⟨hn, hs⟩, hc⟩, hback⟩, hdst⟩, hseq⟩ := hB
  intro F
  induction F with
  | zero =>
    intro listed a w hF inv _
    exfalso
    have h1 := inv.inv.tail n (Nat.le_refl _) hn
    have h2 : listed.toList[n]? = some false := by
      have := inv.inv.size
      rw [Array.getD_eq_getD_getElem?] at h1
      rw [Array.getElem?_toList]
      cases h3 : listed[n]? with
      | none => rw [h3] at h1; simp at h1
      | some b => rw [h3] at h1; simp at h1; rw [h1]
    have := lacking_set _ n h2
    omega
  | succ F ih =>
    intro listed a w hF inv st
    have hsz := inv.inv.size
    by_cases hall : ∀ i, i < n → listed.getD i false = true
    · -- all of the head has come up
      have e : listed = headArr n ops.size := by
        apply Array.ext (by simp [headArr]; omega)
        intro i h1 h2
        by_cases hi : i < n
        · have := hall i hi
          have h3 : (headArr n ops.size)[i] = true := by
            simp [headArr, List.getElem_append_left, hi]
          rw [h3]
          simpa [h1] using this
        · have := inv.inv.tail i (by omega) (by omega)
          have h3 : (headArr n ops.size)[i] = false := by
            simp only [headArr, List.getElem_toArray]
            rw [List.getElem_append_right (by simp; omega)]
            simp
          rw [h3]
          simpa [h1] using this
      subst e
      have hg : lacking (headArr n ops.size).toList = ops.size - n := lacking_head n _
      have hlen : (l.drop n).length = ops.size - n := by rw [hl]; simp
      have h3 := wpAny_of_seq (P := P) (ops := ops) (md := md) (Q' := Q) (l.drop n) n (headArr n ops.size) a w (fun j => by rw [hl]; simp [List.getElem?_drop]) (by rw [hlen]; exact hseq) (hend a w st)
      rw [hlen, ← hg, hF] at h3
      exact h3
    · have hex : ∃ i, i < n ∧ listed.getD i false = false := by
        refine Classical.byContradiction fun hno => hall fun j hj => ?_
        cases h : listed.getD j false with
        | true => rfl
        | false => exact absurd ⟨j, hj, h⟩ hno
      obtain ⟨i0, hi0, hl0⟩ := hex
      obtain ⟨j0, _, hr0⟩ := first_ready (md := md) hback hsz i0 (by omega) hl0
      refine ⟨fun h => absurd hr0 (by rw [h]; simp), fun i hi => ?_⟩
      have hin : i < n := Nat.lt_of_not_le fun h => tail_later hs hc inv _ i0 rfl hi0 (getD_in (by omega) hl0) i h hi
      obtain ⟨hun, o, ho, hafter⟩ := mem_ready.1 hi
      have hFn : lacking (listed.setIfInBounds i true).toList = F := by
        have h2 : listed.toList[i]? = some false := by
          rw [Array.getD_eq_getD_getElem?] at hun
          rw [Array.getElem?_toList]
          cases h3 : listed[i]? with
          | none => rw [h3] at hun; simp at hun
          | some b => rw [h3] at hun; simp at hun; rw [hun]
        have := lacking_set _ i h2
        have e : (listed.setIfInBounds i true).toList = listed.toList.set i true := by simp
        rw [e]; omega
      have hil : i < listed.size := by
        have := (Array.getElem?_eq_some_iff.1 ho).1
        omega
      refine St.step hdst hM mono (hst i o hin ho) st hin ho hil (fun j hw => ?_) _ (fun a' w' st' => ih _ _ _ hFn (inv.set hi hin) st')
      obtain ⟨o', ho', e, he, hb, hon⟩ := Region.waitsFor_spec hw
      obtain rfl : o' = o := Option.some.inj (ho'.symm.trans ho)
      rw [← hon]
      exact hafter e he hb

theorem headArr_set {k s : Nat} (hk : k < s) : (headArr k s).setIfInBounds k true = headArr (k + 1) s := by
  apply Array.ext'
  apply List.ext_getElem?
  intro i
  simp only [headArr, Array.toList_setIfInBounds]
  by_cases e : k = i
  · subst e
    rw [List.getElem?_set_self (by simp; omega), List.getElem?_append_left (by simp)]
    simp
  · rw [List.getElem?_set_ne e]
    by_cases h : i < k
    · rw [List.getElem?_append_left (by simpa using h), List.getElem?_append_left (by simp; omega)]
      simp [h, show i < k + 1 by omega]
    · rw [List.getElem?_append_right (by simp; omega), List.getElem?_append_right (by simp; omega)]
      simp only [List.length_replicate, List.getElem?_replicate]
      by_cases h2 : i < s
      · rw [if_pos (by omega), if_pos (by omega)]
      · rw [if_neg (by omega), if_neg (by omega)]
theorem headArr_size {k s : Nat} (hk : k ≤ s) : (headArr k s).size = s := by simp [headArr]; omega
/-- The same in the text's order. -/
theorem spec_seq {al : Nat → Bool} {S : Nat → Value → World → Prop} {M : Nat} {Q : Exit → Act → World → Prop} {l : List Oper} (hl : ops = l.toArray) (hn : n ≤ ops.size) (hback : backB md ops = true) (hdst : dstB ops n M = true) (hM : M ≤ a0.tmps.size)
    (mono : ∀ i v w w', S i v w → Below w.heap.size w w' → S i v w') (hst : ∀ i o, i < n → ops[i]? = some o → StepOk P ops md W a0 n al S Q i o)
    (hend : ∀ a w, St ops W a0 n al S (headArr n ops.size) a w → wpList P ops Q (l.drop n) a w) :
    ∀ (F k : Nat) (a : Act) (w : World), n - k = F → k ≤ n → St ops W a0 n al S (headArr k ops.size) a w → wpList P ops Q (l.drop k) a w := by
  intro F
  induction F with
  | zero =>
    intro k a w hF hk st
    have e : k = n := by omega
    subst e
    exact hend a w st
  | succ F ih =>
    intro k a w hF hk st
    have hkn : k < n := by omega
    have hkl : k < l.length := by have := hn; rw [hl] at this; simp at this; omega
    have hks : k < ops.size := by rw [hl]; simpa using hkl
    have ho : ops[k]? = some l[k] := by rw [hl]; simp [hkl]
    have h := St.step (a0 := a0) (md := md) hdst hM mono (hst k _ hkn ho) st hkn ho (by rw [headArr_size (by omega)]; exact hks) (fun j hw => by
      obtain ⟨o', ho', e, he, hb, hon⟩ := Region.waitsFor_spec hw
      obtain rfl : o' = l[k] := Option.some.inj (ho'.symm.trans ho)
      have h1 := List.all_eq_true.1 hback k (List.mem_range.2 hks)
      rw [ho] at h1
      have h3 := Array.all_eq_true_iff_forall_mem.1 h1 e he
      rw [← hon]
      rw [hb] at h3
      exact head_true (by simpa using h3)) (wpList P ops Q (l.drop (k + 1))) (fun a' w' st' => ih (k + 1) a' w' (by omega) (by omega) (by rw [headArr_set hks] at st'; exact st'))
    rw [List.drop_eq_getElem_cons hkl]
    unfold wpOp at h
    simp only [ho] at h
    exact h

/-- The steps of the text's order, each with what is true of its value. -/
def Steps (P : Program) (ops : Array Oper) (md : Region.Mode) (W : World) (a0 : Act) (n : Nat) (al : Nat → Bool) (S : Nat → Value → World → Prop) (Q : Exit → Act → World → Prop) : Nat → Nat → List Oper → Prop
  | 0, _, _ => True
  | _ + 1, _, [] => True
  | m + 1, k, o :: l => StepOk P ops md W a0 n al S Q k o ∧ Steps P ops md W a0 n al S Q m (k + 1) l
theorem Steps.at_ {al : Nat → Bool} {S : Nat → Value → World → Prop} {Q : Exit → Act → World → Prop} : ∀ (m k : Nat) (l : List Oper), Steps P ops md W a0 n al S Q m k l → ∀ i o, i < m → l[i]? = some o → StepOk P ops md W a0 n al S Q (k + i) o
  | 0, _, _, _, _, _, hi, _ => by omega
  | m + 1, k, [], _, i, o, _, ho => by simp at ho
  | m + 1, k, o' :: l, h, 0, o, _, ho => by
    simp at ho; subst ho; exact h.1
  | m + 1, k, o' :: l, h, i + 1, o, hi, ho => by
    have := Steps.at_ m (k + 1) l h.2 i o (by omega) (by simpa using ho)
    rw [show k + (i + 1) = k + 1 + i by omega]; exact this
def sAt (Ss : List (Value → World → Prop)) (i : Nat) : Value → World → Prop := Ss.getD i (fun _ _ => True)
/-- It stays true when the world grows. -/
def Grows (S : Value → World → Prop) : Prop := ∀ v w w', S v w → Below w.heap.size w w' → S v w'
theorem grows_at {Ss : List (Value → World → Prop)} (h : ∀ S ∈ Ss, Grows S) (i : Nat) (v : Value) (w w' : World) (hS : sAt Ss i v w) (hb : Below w.heap.size w w') : sAt Ss i v w' := by
  unfold sAt at *
  rw [List.getD_eq_getElem?_getD] at *
  cases hi : Ss[i]? with
  | none => trivial
  | some S => rw [hi] at hS; exact h S (List.mem_of_getElem? hi) v w w' hS hb
/-- The region. -/
theorem region_spec {id : Nat} {Q : Exit → Act → World → Prop} {l : List Oper} (n M : Nat) (al : Nat → Bool) (Ss : List (Value → World → Prop)) (hm : P.follows .mixedOrders = true) (hB : specB .any l.toArray n M = true) (hM : M ≤ a0.tmps.size)
    (mono : ∀ S ∈ Ss, Grows S) (hst : Steps P l.toArray .any W a0 n al (sAt Ss) Q n 0 l)
    (hend : ∀ a w, St l.toArray W a0 n al (sAt Ss) (headArr n l.toArray.size) a w → wpList P l.toArray Q (l.drop n) a w) : (Code.region id l.toArray true).wp P Q a0 W := by
  have hB2 := hB
  simp only [specB, Bool.and_eq_true, decide_eq_true_eq] at hB2
  obtain ⟨⟨⟨⟨⟨hn, hs⟩, hc⟩, hback⟩, hdst⟩, hseq⟩ := hB2
  refine wp_region_any hm ?_
  have hrep : ∀ i, (Array.replicate l.toArray.size false).getD i false = false := fun i => getD_replicate_false _ _
  refine spec_any (a0 := a0) (al := al) (S := sAt Ss) (l := l) rfl hB hM (fun i v w w' h1 h2 => grows_at mono i v w w' h1 h2) (fun i o hi ho => ?_) hend _ _ _ _ ?_ ?_ ?_
  · have := Steps.at_ n 0 l hst i o hi (by simpa using ho)
    rwa [Nat.zero_add] at this
  · have := lacking_new l.toArray.size
    simpa using this
  · refine ⟨⟨by simp, fun j oj _ hl _ _ _ => ?_, fun t _ hts => ?_⟩, fun i hi => by omega⟩
    · rw [hrep] at hl; cases hl
    · exact getD_in (by simpa using hts) (hrep t)
  · refine ⟨Cl.drew W, rfl, rfl, fun _ _ => rfl, fun i _ h => ?_, fun i _ h => ?_, fun i j _ _ h => ?_⟩ <;> (rw [hrep] at h; cases h)

/-- The act at the end, slot by slot. -/
def putVals (ds : List Tmp) (val : Tmp → Value) (a : Act) : Act := ds.foldl (fun a d => a.put (some d) (val d)) a
theorem putVals_at (ds : List Tmp) (val : Tmp → Value) : ∀ (a : Act) (t : Tmp), (putVals ds val a).tmps[t]? = if t ∈ ds ∧ t < a.tmps.size then some (val t) else a.tmps[t]? := by
  induction ds with
  | nil => intro a t; simp [putVals]
  | cons d ds ih =>
    intro a t
    show (putVals ds val (a.put (some d) (val d))).tmps[t]? = _
    rw [ih]
    have hs : (a.put (some d) (val d)).tmps.size = a.tmps.size := by simp [Act.put]
    rw [hs]
    by_cases h1 : t ∈ ds ∧ t < a.tmps.size
    · rw [if_pos h1, if_pos ⟨by simp [h1.1], h1.2⟩]
    · rw [if_neg h1]
      show (a.tmps.setIfInBounds d (val d))[t]? = _
      by_cases e : d = t
      · subst e
        by_cases hl : d < a.tmps.size
        · rw [if_pos ⟨by simp, hl⟩]; simp [hl]
        · rw [if_neg (fun h => hl h.2), Array.getElem?_eq_none (by simpa using Nat.le_of_not_lt hl), Array.getElem?_eq_none (Nat.le_of_not_lt hl)]
      · rw [Array.getElem?_setIfInBounds_ne e]
        by_cases h2 : t ∈ d :: ds ∧ t < a.tmps.size
        · exfalso
          rcases List.mem_cons.1 h2.1 with h3 | h3
          · exact e h3.symm
          · exact h1 ⟨h3, h2.2⟩
        · rw [if_neg h2]
theorem putVals_defers (ds : List Tmp) (val : Tmp → Value) : ∀ a : Act, (putVals ds val a).defers = a.defers := by
  induction ds with
  | nil => intro a; rfl
  | cons d ds ih => intro a; exact ih _
theorem putVals_size (ds : List Tmp) (val : Tmp → Value) : ∀ a : Act, (putVals ds val a).tmps.size = a.tmps.size := by
  induction ds with
  | nil => intro a; rfl
  | cons d ds ih =>
    intro a
    show (putVals ds val (a.put (some d) (val d))).tmps.size = _
    rw [ih]; simp [Act.put]
def dstsOf (ops : Array Oper) (n : Nat) : List Tmp := (List.range n).filterMap (dstOf ops)
theorem St.act {al : Nat → Bool} {S : Nat → Value → World → Prop} {a : Act} {w : World} (st : St ops W a0 n al S (headArr n ops.size) a w) : a = putVals (dstsOf ops n) (fun d => a.eval (.tmp d)) a0 := by
  have h1 : a.tmps = (putVals (dstsOf ops n) (fun d => a.eval (.tmp d)) a0).tmps := by
    apply Array.ext'
    apply List.ext_getElem?
    intro t
    rw [Array.getElem?_toList, Array.getElem?_toList, putVals_at]
    by_cases h : t ∈ dstsOf ops n ∧ t < a0.tmps.size
    · rw [if_pos h]
      have hl : t < a.tmps.size := by rw [st.size]; exact h.2
      simp [Act.eval, Array.getD, hl]
    · rw [if_neg h]
      by_cases hl : t < a0.tmps.size
      · exact st.frame t fun i hi _ hd => h ⟨List.mem_filterMap.2 ⟨i, List.mem_range.2 hi, hd⟩, hl⟩
      · rw [Array.getElem?_eq_none (by rw [st.size]; omega), Array.getElem?_eq_none (by omega)]
  have h2 := st.df
  have h3 := putVals_defers (dstsOf ops n) (fun d => a.eval (.tmp d)) a0
  obtain ⟨t, f⟩ := a
  cases hq : putVals (dstsOf ops n) (fun d => Act.eval ⟨t, f⟩ (.tmp d)) a0 with
  | mk t' f' =>
    rw [hq] at h1 h3
    dsimp only at h1 h2 h3
    rw [h1, h2, h3]
theorem St.at_ {al : Nat → Bool} {Ss : List (Value → World → Prop)} {a : Act} {w : World} (st : St ops W a0 n al (sAt Ss) (headArr n ops.size) a w) (i : Nat) (d : Tmp) (hi : i < n) (hd : dstOf ops i = some d) : sAt Ss i (a.eval (.tmp d)) w := by
  exact st.vals i hi (head_true hi) d hd
/-- The region, with the act at the end written out. -/
theorem region_spec2 {id : Nat} {Q : Exit → Act → World → Prop} {l : List Oper} (n M : Nat) (al : Nat → Bool) (Ss : List (Value → World → Prop)) (ds : List Tmp) (hds : dstsOf l.toArray n = ds) (hm : P.follows .mixedOrders = true) (hB : specB .any l.toArray n M = true) (hM : M ≤ a0.tmps.size)
    (mono : ∀ S ∈ Ss, Grows S) (hst : Steps P l.toArray .any W a0 n al (sAt Ss) Q n 0 l)
    (hend : ∀ (val : Tmp → Value) w, Cl W w → (∀ i d, i < n → dstOf l.toArray i = some d → sAt Ss i (val d) w) →
      (∀ i j d d', i < n → j < n → al i = true → al j = true → i ≠ j → dstOf l.toArray i = some d → dstOf l.toArray j = some d' → home (val d) ≠ home (val d')) →
      (∀ i d, i < n → al i = true → dstOf l.toArray i = some d → ∃ b, home (val d) = some b ∧ W.heap.size ≤ b ∧ b < w.heap.size) → wpList P l.toArray Q (l.drop n) (putVals ds val a0) w) : (Code.region id l.toArray true).wp P Q a0 W := by
  refine region_spec n M al Ss hm hB hM mono hst fun a w st => ?_
  rw [st.act, hds]
  have hl : ∀ i, i < n → (headArr n l.toArray.size).getD i false = true := fun i hi => head_true hi
  exact hend (fun d => a.eval (.tmp d)) w st.cl (fun i d hi hd => st.at_ i d hi hd) (fun i j d d' hi hj hai haj hij hd hd' => st.apart i j hi hj (hl i hi) (hl j hj) hai haj hij d d' hd hd') (fun i d hi hai hd => st.laid i hi (hl i hi) hai d hd)
/-- The region in the text's order, with the act at the end written out. -/
theorem region_seq2 {id : Nat} {Q : Exit → Act → World → Prop} {l : List Oper} (n M : Nat) (al : Nat → Bool) (Ss : List (Value → World → Prop)) (ds : List Tmp) (hds : dstsOf l.toArray n = ds) (hB : (decide (n ≤ l.toArray.size) && backB .any l.toArray && dstB l.toArray n M) = true) (hM : M ≤ a0.tmps.size)
    (mono : ∀ S ∈ Ss, Grows S) (hst : Steps P l.toArray .any W a0 n al (sAt Ss) Q n 0 l)
    (hend : ∀ (val : Tmp → Value) w, Cl W w → (∀ i d, i < n → dstOf l.toArray i = some d → sAt Ss i (val d) w) →
      (∀ i j d d', i < n → j < n → al i = true → al j = true → i ≠ j → dstOf l.toArray i = some d → dstOf l.toArray j = some d' → home (val d) ≠ home (val d')) →
      (∀ i d, i < n → al i = true → dstOf l.toArray i = some d → ∃ b, home (val d) = some b ∧ W.heap.size ≤ b ∧ b < w.heap.size) → wpList P l.toArray Q (l.drop n) (putVals ds val a0) w) : (Code.region id l.toArray false).wp P Q a0 W := by
  simp only [Bool.and_eq_true, decide_eq_true_eq] at hB
  obtain ⟨⟨hn, hback⟩, hdst⟩ := hB
  refine wp_region_lit ?_
  have h := spec_seq (P := P) (md := .any) (W := W) (a0 := a0) (al := al) (S := sAt Ss) (Q := Q) (l := l) rfl hn hback hdst hM (fun i v w w' h1 h2 => grows_at mono i v w w' h1 h2) (fun i o hi ho => by
    have := Steps.at_ n 0 l hst i o hi (by simpa using ho)
    rwa [Nat.zero_add] at this) (fun a w st => by
    rw [st.act, hds]
    exact hend (fun d => a.eval (.tmp d)) w st.cl (fun i d hi hd => st.at_ i d hi hd) (fun i j d d' hi hj hai haj hij hd hd' => st.apart i j hi hj (head_true hi) (head_true hj) hai haj hij d d' hd hd') (fun i d hi hai hd => st.laid i hi (head_true hi) hai d hd)) n 0 a0 W (by omega) (by omega) (by
    have hz : ∀ i, (headArr 0 l.toArray.size).getD i false = false := fun i => by
      have : headArr 0 l.toArray.size = Array.replicate l.toArray.size false := by simp [headArr]
      rw [this]; exact getD_replicate_false _ _
    refine ⟨Cl.refl W, rfl, rfl, fun _ _ => rfl, fun i _ h => ?_, fun i _ h => ?_, fun i j _ _ h => ?_⟩ <;> (rw [hz] at h; cases h))
  simpa using h
end
end Go.Proofs.Ytdfalneiapeegaa
