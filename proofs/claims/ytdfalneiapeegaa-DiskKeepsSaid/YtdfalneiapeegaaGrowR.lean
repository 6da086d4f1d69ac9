/- A region that draws its order, whose operations make memory, and some of which fill further a row that an operation before them made: what an operation may change is the row that it alone reads. No program is named. -/
import Derived.Test.YtdfalneiapeegaaSpec2
import Derived.Test.YtdfalneiapeegaaApp
namespace Go.Proofs.Ytdfalneiapeegaa
open Go Go.RowKit

section
variable {P : Program} {ops : Array Oper} {md : Region.Mode} {W : World} {a0 : Act} {n : Nat}

/-- The row that an operation fills further: that of the operation which it takes up. -/
def rowOf (ops : Array Oper) (pre : Nat → Option Nat) (a : Act) (i : Nat) : Option Nat := ((pre i).bind (dstOf ops)).bind fun d => home (a.eval (.tmp d))
/-- Taken up already. -/
def Dead (n : Nat) (pre : Nat → Option Nat) (listed : Array Bool) (p : Nat) : Prop := ∃ i, i < n ∧ pre i = some p ∧ listed.getD i false = true
/-- An operation that does as it is told; it may turn the row that it takes up. -/
def StepG (P : Program) (ops : Array Oper) (md : Region.Mode) (W : World) (a0 : Act) (n : Nat) (al : Nat → Bool) (pre : Nat → Option Nat) (S : Nat → Value → World → Prop) (Q : Exit → Act → World → Prop) (i : Nat) (o : Oper) : Prop :=
  ∀ a w, Cl W w → (∀ t, (∀ j, j < n → dstOf ops j ≠ some t) → a.tmps[t]? = a0.tmps[t]?) → (∀ j d, j < n → Region.waitsFor md ops i j = true → dstOf ops j = some d → S j (a.eval (.tmp d)) w) →
    if Region.wanted o (yielded ops a.tmps) = true then o.wp P a w (fun a' w' => ∃ v, a' = a.put o.dst v ∧ S i v w' ∧ w.grownBy w' (rowOf ops pre a i) ∧ (al i = true → ∀ b, home v = some b → (w.heap.size ≤ b ∨ rowOf ops pre a i = some b) ∧ b < w'.heap.size)) Q else S i undef w ∧ al i = false
theorem StepOk.up {al : Nat → Bool} {pre : Nat → Option Nat} {S : Nat → Value → World → Prop} {Q : Exit → Act → World → Prop} {i : Nat} {o : Oper} (h : StepOk P ops md W a0 n al S Q i o) : StepG P ops md W a0 n al pre S Q i o := fun a w hw hf hd => by
  have h := h a w hw hf hd
  split at h
  · rename_i hw
    rw [if_pos hw]
    refine Oper.wp_mono (fun a' w' h' => ?_) h
    obtain ⟨v, e, hs, hb, hh⟩ := h'
    refine ⟨v, e, hs, grown_of_below hb _, fun e b he => ?_⟩
    obtain ⟨b', h1, h2, h3⟩ := hh e
    rw [h1] at he
    injection he with he
    subst he
    exact ⟨.inl h2, h3⟩
  · rename_i hw
    rw [if_neg hw]
    exact h
/-- What stands when some have come up. -/
structure StG (ops : Array Oper) (W : World) (a0 : Act) (n : Nat) (al : Nat → Bool) (pre : Nat → Option Nat) (S : Nat → Value → World → Prop) (listed : Array Bool) (a : Act) (w : World) : Prop where
  cl : Cl W w
  df : a.defers = a0.defers
  size : a.tmps.size = a0.tmps.size
  frame : ∀ t, (∀ i, i < n → listed.getD i false = true → dstOf ops i ≠ some t) → a.tmps[t]? = a0.tmps[t]?
  vals : ∀ i, i < n → listed.getD i false = true → ¬ Dead n pre listed i → ∀ d, dstOf ops i = some d → S i (a.eval (.tmp d)) w
  laid : ∀ i, i < n → listed.getD i false = true → ¬ Dead n pre listed i → al i = true → ∀ d b, dstOf ops i = some d → home (a.eval (.tmp d)) = some b → W.heap.size ≤ b ∧ b < w.heap.size
  apart : ∀ i j, i < n → j < n → listed.getD i false = true → listed.getD j false = true → ¬ Dead n pre listed i → ¬ Dead n pre listed j → al i = true → al j = true → i ≠ j → ∀ d d' b, dstOf ops i = some d → dstOf ops j = some d' → home (a.eval (.tmp d)) = some b → home (a.eval (.tmp d')) ≠ some b
/-- It stays true when rows grow, but for its own. -/
def Keeps (b : Bool) (S : Value → World → Prop) : Prop := ∀ v w w' row, S v w → w.grownBy w' row → (b = true → ∀ g, row = some g → home v ≠ some g) → S v w'
/-- What the kernel looks at: an operation waits for the row that it takes up, and no other one waits for it. -/
def preB (md : Region.Mode) (ops : Array Oper) (n : Nat) (al : Nat → Bool) (pre : Nat → Option Nat) : Bool := (List.range n).all fun i => match pre i with
  | some p => decide (p < n) && !(p == i) && al p && Region.waitsFor md ops i p && (List.range n).all (fun k => (k == i) || ((!Region.waitsFor md ops k p || Region.waitsFor md ops i k) && !(pre k == some p)))
  | none => true
theorem pre_spec {al : Nat → Bool} {pre : Nat → Option Nat} (h : preB md ops n al pre = true) {i p : Nat} (hi : i < n) (hp : pre i = some p) : p < n ∧ p ≠ i ∧ al p = true ∧ Region.waitsFor md ops i p = true ∧ ∀ k, k < n → (Region.waitsFor md ops k p = true → k = i ∨ Region.waitsFor md ops i k = true) := by
  have h1 := List.all_eq_true.1 h i (List.mem_range.2 hi)
  rw [hp] at h1
  simp only [Bool.and_eq_true, decide_eq_true_eq, Bool.not_eq_true', beq_eq_false_iff_ne] at h1
  obtain ⟨⟨⟨⟨h1, h2⟩, h3⟩, h4⟩, h5⟩ := h1
  refine ⟨h1, h2, h3, h4, fun k hk hw => ?_⟩
  have h6 := List.all_eq_true.1 h5 k (List.mem_range.2 hk)
  simp only [Bool.or_eq_true, Bool.and_eq_true, Bool.not_eq_true', beq_eq_false_iff_ne, beq_iff_eq] at h6
  rcases h6 with h6 | ⟨h6 | h6, h7⟩
  · exact .inl h6
  · rw [hw] at h6; cases h6
  · exact .inr h6
theorem StG.step {al : Nat → Bool} {pre : Nat → Option Nat} {S : Nat → Value → World → Prop} {M : Nat} {Q : Exit → Act → World → Prop} {listed : Array Bool} {a : Act} {w : World} {i : Nat} {o : Oper} (hdst : dstB ops n M = true) (hM : M ≤ a0.tmps.size) (hpre : preB md ops n al pre = true)
    (mono : ∀ i, Keeps (al i) (S i)) (hst : StepG P ops md W a0 n al pre S Q i o) (st : StG ops W a0 n al pre S listed a w) (hin : i < n) (ho : ops[i]? = some o) (hil : i < listed.size) (hun : listed.getD i false = false)
    (hdeps : ∀ j, Region.waitsFor md ops i j = true → listed.getD j false = true) (hclo : ∀ k, listed.getD k false = true → Region.waitsFor md ops k i = true → listed.getD i false = true) (K : Act → World → Prop) (hK : ∀ a' w', StG ops W a0 n al pre S (listed.setIfInBounds i true) a' w' → K a' w') : wpOp P ops Q i K a w := by
  obtain ⟨d, hd, hdl, hdu⟩ := dst_spec hdst hM i hin
  have hod : o.dst = some d := by unfold dstOf at hd; rw [ho] at hd; exact hd
  have alive : ∀ j, Region.waitsFor md ops i j = true → ¬ Dead n pre listed j := fun j hw ⟨k, hk, hkp, hkl⟩ => by
    rcases (pre_spec hpre hk hkp).2.2.2.2 i hin hw with h | h
    · rw [← h, hun] at hkl; cases hkl
    · have := hclo k hkl h
      rw [hun] at this; cases this
  have hstep := hst a w st.cl (fun t ht => st.frame t (fun j hj _ => ht j hj)) (fun j dj hj hw hdj => st.vals j hj (hdeps j hw) (alive j hw) dj hdj)
  have hset : ∀ j, (listed.setIfInBounds i true).getD j false = true → j = i ∨ listed.getD j false = true := fun j hj => by
    by_cases e : i = j
    · exact .inl e.symm
    · rw [getD_set_ne false e] at hj; exact .inr hj
  have hold : ∀ j, ¬ Dead n pre (listed.setIfInBounds i true) j → ¬ Dead n pre listed j := fun j h ⟨k, hk, hkp, hkl⟩ => h ⟨k, hk, hkp, getD_set_true hkl⟩
  -- the row that it takes up
  have hrow : ∀ g, rowOf ops pre a i = some g → ∃ p dp, pre i = some p ∧ dstOf ops p = some dp ∧ home (a.eval (.tmp dp)) = some g ∧ p < n ∧ p ≠ i ∧ al p = true ∧ listed.getD p false = true ∧ ¬ Dead n pre listed p := fun g hg => by
    unfold rowOf at hg
    cases hp : pre i with
    | none => rw [hp] at hg; cases hg
    | some p =>
      rw [hp] at hg
      cases hdp : dstOf ops p with
      | none => simp [hdp] at hg
      | some dp =>
        simp only [Option.bind_some, hdp] at hg
        obtain ⟨h1, h2, h3, h4, _⟩ := pre_spec hpre hin hp
        exact ⟨p, dp, rfl, hdp, hg, h1, h2, h3, hdeps p h4, alive p h4⟩
  have hrowB : ∀ g, rowOf ops pre a i = some g → W.heap.size ≤ g ∧ g < w.heap.size := fun g hg => by
    obtain ⟨p, dp, _, hdp, hh, hpn, _, hap, hpl, hpa⟩ := hrow g hg
    exact st.laid p hpn hpl hpa hap dp g hdp hh
  have hrowA : ∀ g, rowOf ops pre a i = some g → ∀ j dj, j < n → j ≠ i → listed.getD j false = true → ¬ Dead n pre (listed.setIfInBounds i true) j → al j = true → dstOf ops j = some dj → home (a.eval (.tmp dj)) ≠ some g := fun g hg j dj hj _ hjl hja haj hdj => by
    obtain ⟨p, dp, hp, hdp, hh, hpn, _, hap, hpl, hpa⟩ := hrow g hg
    have hne : p ≠ j := fun e => hja ⟨i, hin, by rw [← e]; exact hp, by simp [hil]⟩
    exact st.apart p j hpn hj hpl hjl hpa (hold j hja) hap haj hne dp dj g hdp hdj hh
  have next : ∀ v w', S i v w' → w.grownBy w' (rowOf ops pre a i) → (al i = true → ∀ b, home v = some b → (w.heap.size ≤ b ∨ rowOf ops pre a i = some b) ∧ b < w'.heap.size) → StG ops W a0 n al pre S (listed.setIfInBounds i true) (a.put o.dst v) w' := fun v w' hv hb hal => by
    rw [hod]
    have same : (a.put (some d) v).eval (.tmp d) = v := by
      have h1 : d < a.tmps.size := by rw [st.size]; exact hdl
      simp [Act.put, Act.eval, Array.getD, h1]
    have other : ∀ dj, d ≠ dj → (a.put (some d) v).eval (.tmp dj) = a.eval (.tmp dj) := fun dj hne => by
      simp only [Act.put, Act.eval, Array.getD_eq_getD_getElem?]
      rw [Array.getElem?_setIfInBounds_ne hne]
    have dne : ∀ j dj, j < n → j ≠ i → dstOf ops j = some dj → d ≠ dj := fun j dj hj e hdj e2 => e (hdu j hj (by rw [hdj, e2])).symm
    have hsz : W.heap.size ≤ w.heap.size := Below.size st.cl
    have mine : al i = true → ∀ b, home v = some b → (W.heap.size ≤ b ∧ b < w'.heap.size) ∧ ∀ j dj, j < n → j ≠ i → listed.getD j false = true → ¬ Dead n pre (listed.setIfInBounds i true) j → al j = true → dstOf ops j = some dj → home (a.eval (.tmp dj)) ≠ some b := fun hai b hb' => by
      obtain ⟨h1, h2⟩ := hal hai b hb'
      rcases h1 with h1 | h1
      · refine ⟨⟨by omega, h2⟩, fun j dj hj _ hjl hja haj hdj e => ?_⟩
        have := (st.laid j hj hjl (hold j hja) haj dj b hdj e).2
        omega
      · exact ⟨⟨(hrowB b h1).1, h2⟩, fun j dj hj hji hjl hja haj hdj => hrowA b h1 j dj hj hji hjl hja haj hdj⟩
    refine ⟨Below.grown st.cl hb hsz (fun g hg => (hrowB g hg).1), st.df, by simp [Act.put, st.size], fun t ht => ?_, fun j hj hlj hja dj hdj => ?_, fun j hj hlj hja haj dj b hdj he => ?_, fun j k hj hk hlj hlk hja hka haj hak hjk dj dk b hdj hdk he => ?_⟩
    · have hne : d ≠ t := fun e => ht i hin (by simp [hil]) (by rw [hd, e])
      show (a.tmps.setIfInBounds d v)[t]? = _
      rw [Array.getElem?_setIfInBounds_ne hne]
      exact st.frame t fun k hk hlk => ht k hk (getD_set_true hlk)
    · by_cases e : j = i
      · subst e
        obtain rfl : dj = d := Option.some.inj (hdj.symm.trans hd)
        rw [same]; exact hv
      · rw [other dj (dne j dj hj e hdj)]
        have hjl := (hset j hlj).resolve_left e
        exact mono j _ _ _ _ (st.vals j hj hjl (hold j hja) dj hdj) hb fun haj g hg => hrowA g hg j dj hj e hjl hja haj hdj
    · by_cases e : j = i
      · subst e
        obtain rfl : dj = d := Option.some.inj (hdj.symm.trans hd)
        rw [same] at he
        exact (mine haj b he).1
      · rw [other dj (dne j dj hj e hdj)] at he
        obtain ⟨h1, h2⟩ := st.laid j hj ((hset j hlj).resolve_left e) (hold j hja) haj dj b hdj he
        exact ⟨h1, Nat.lt_of_lt_of_le h2 hb.size⟩
    · by_cases e : j = i
      · subst e
        obtain rfl : dj = d := Option.some.inj (hdj.symm.trans hd)
        have e2 : k ≠ j := Ne.symm hjk
        rw [same] at he
        rw [other dk (dne k dk hk e2 hdk)]
        exact (mine haj b he).2 k dk hk e2 ((hset k hlk).resolve_left e2) hka hak hdk
      · by_cases e2 : k = i
        · subst e2
          obtain rfl : dk = d := Option.some.inj (hdk.symm.trans hd)
          rw [other dj (dne j dj hj e hdj)] at he
          rw [same]
          intro he2
          exact (mine hak b he2).2 j dj hj e ((hset j hlj).resolve_left e) hja haj hdj he
        · rw [other dj (dne j dj hj e hdj)] at he
          rw [other dk (dne k dk hk e2 hdk)]
          exact st.apart j k hj hk ((hset j hlj).resolve_left e) ((hset k hlk).resolve_left e2) (hold j hja) (hold k hka) haj hak hjk dj dk b hdj hdk he
  unfold wpOp
  simp only [ho]
  split at hstep
  · rename_i hw
    rw [if_pos hw]
    left
    refine Oper.wp_mono (fun a' w' h' => ?_) hstep
    obtain ⟨v, rfl, hv, hb, hal⟩ := h'
    exact hK _ _ (next v w' hv hb hal)
  · rename_i hw
    rw [if_neg hw]
    exact hK _ _ (next undef w hstep.1 (World.grownBy.refl w _) (fun h => by rw [hstep.2] at h; cases h))
theorem growAny {al : Nat → Bool} {pre : Nat → Option Nat} {S : Nat → Value → World → Prop} {M : Nat} {Q : Exit → Act → World → Prop} {l : List Oper} (hl : ops = l.toArray) (hB : specB md ops n M = true) (hM : M ≤ a0.tmps.size) (hpre : preB md ops n al pre = true)
    (mono : ∀ i, Keeps (al i) (S i)) (hst : ∀ i o, i < n → ops[i]? = some o → StepG P ops md W a0 n al pre S Q i o)
    (hend : ∀ a w, StG ops W a0 n al pre S (headArr n ops.size) a w → wpList P ops Q (l.drop n) a w) :
    ∀ (F : Nat) (listed : Array Bool) (a : Act) (w : World), lacking listed.toList = F → HInv md ops 0 n listed → StG ops W a0 n al pre S listed a w → wpAny P md ops Q F listed a w := by
  simp only [specB, Bool.and_eq_true, decide_eq_true_eq] at hB
  obtain ⟨⟨⟨⟨⟨hn, hs⟩, hc⟩, hback⟩, hdst⟩, hseq⟩ := hB
  intro F
  induction F with
  | zero =>
    intro listed a w hF inv _
    exfalso
    have h1 := inv.inv.tail n (Nat.le_refl _) hn
    have h2 : listed.toList[n]? = some false := by
      have := inv.inv.size
      rw [Array.getD_eq_getD_getElem?] at h1
      rw [Array.getElem?_toList]
      cases h3 : listed[n]? with
      | none => rw [h3] at h1; simp at h1
      | some b => rw [h3] at h1; simp at h1; rw [h1]
    have := lacking_set _ n h2
    omega
  | succ F ih =>
    intro listed a w hF inv st
    have hsz := inv.inv.size
    by_cases hall : ∀ i, i < n → listed.getD i false = true
    · have e : listed = headArr n ops.size := by
        apply Array.ext (by simp [headArr]; omega)
        intro i h1 h2
        by_cases hi : i < n
        · have := hall i hi
          have h3 : (headArr n ops.size)[i] = true := by
            simp [headArr, List.getElem_append_left, hi]
          rw [h3]
          simpa [h1] using this
        · have := inv.inv.tail i (by omega) (by omega)
          have h3 : (headArr n ops.size)[i] = false := by
            simp only [headArr, List.getElem_toArray]
            rw [List.getElem_append_right (by simp; omega)]
            simp
          rw [h3]
          simpa [h1] using this
      subst e
      have hg : lacking (headArr n ops.size).toList = ops.size - n := lacking_head n _
      have hlen : (l.drop n).length = ops.size - n := by rw [hl]; simp
      have h3 := wpAny_of_seq (P := P) (ops := ops) (md := md) (Q' := Q) (l.drop n) n (headArr n ops.size) a w (fun j => by rw [hl]; simp [List.getElem?_drop]) (by rw [hlen]; exact hseq) (hend a w st)
      rw [hlen, ← hg, hF] at h3
      exact h3
    · have hex : ∃ i, i < n ∧ listed.getD i false = false := by
        refine Classical.byContradiction fun hno => hall fun j hj => ?_
        cases h : listed.getD j false with
        | true => rfl
        | false => exact absurd ⟨j, hj, h⟩ hno
      obtain ⟨i0, hi0, hl0⟩ := hex
      obtain ⟨j0, _, hr0⟩ := first_ready (md := md) hback hsz i0 (by omega) hl0
      refine ⟨fun h => absurd hr0 (by rw [h]; simp), fun i hi => ?_⟩
      have hin : i < n := Nat.lt_of_not_le fun h => tail_later hs hc inv _ i0 rfl hi0 (getD_in (by omega) hl0) i h hi
      obtain ⟨hun, o, ho, hafter⟩ := mem_ready.1 hi
      have hFn : lacking (listed.setIfInBounds i true).toList = F := by
        have h2 : listed.toList[i]? = some false := by
          rw [Array.getD_eq_getD_getElem?] at hun
          rw [Array.getElem?_toList]
          cases h3 : listed[i]? with
          | none => rw [h3] at hun; simp at hun
          | some b => rw [h3] at hun; simp at hun; rw [hun]
        have := lacking_set _ i h2
        have e : (listed.setIfInBounds i true).toList = listed.toList.set i true := by simp
        rw [e]; omega
      have hil : i < listed.size := by
        have := (Array.getElem?_eq_some_iff.1 ho).1
        omega
      have hun2 : listed.getD i false = false := by
        rw [Array.getD_eq_getD_getElem?] at hun ⊢
        cases h3 : listed[i]? with
        | none => rfl
        | some b => rw [h3] at hun; simpa using hun
      refine StG.step hdst hM hpre mono (hst i o hin ho) st hin ho hil hun2 (fun j hw => ?_) (fun k hk hw => ?_) _ (fun a' w' st' => ih _ _ _ hFn (inv.set hi hin) st')
      rotate_left
      · obtain ⟨o', ho', e, he, hb, hon⟩ := Region.waitsFor_spec hw
        rw [← hon]
        exact inv.inv.closed k o' ho' hk e he hb
      obtain ⟨o', ho', e, he, hb, hon⟩ := Region.waitsFor_spec hw
      obtain rfl : o' = o := Option.some.inj (ho'.symm.trans ho)
      rw [← hon]
      exact hafter e he hb

/-- The steps of the text's order, each with what is true of its value. -/
def StepsG (P : Program) (ops : Array Oper) (md : Region.Mode) (W : World) (a0 : Act) (n : Nat) (al : Nat → Bool) (pre : Nat → Option Nat) (S : Nat → Value → World → Prop) (Q : Exit → Act → World → Prop) : Nat → Nat → List Oper → Prop
  | 0, _, _ => True
  | _ + 1, _, [] => True
  | m + 1, k, o :: l => StepG P ops md W a0 n al pre S Q k o ∧ StepsG P ops md W a0 n al pre S Q m (k + 1) l
theorem StepsG.at_ {al : Nat → Bool} {pre : Nat → Option Nat} {S : Nat → Value → World → Prop} {Q : Exit → Act → World → Prop} : ∀ (m k : Nat) (l : List Oper), StepsG P ops md W a0 n al pre S Q m k l → ∀ i o, i < m → l[i]? = some o → StepG P ops md W a0 n al pre S Q (k + i) o
  | 0, _, _, _, _, _, hi, _ => by omega
  | m + 1, k, [], _, i, o, _, ho => by simp at ho
  | m + 1, k, o' :: l, h, 0, o, _, ho => by
    simp at ho; subst ho; exact h.1
  | m + 1, k, o' :: l, h, i + 1, o, hi, ho => by
    have := StepsG.at_ m (k + 1) l h.2 i o (by omega) (by simpa using ho)
    rw [show k + (i + 1) = k + 1 + i by omega]; exact this
/-- Of each of the values, from k on. -/
def AllKeep (al : Nat → Bool) : Nat → List (Value → World → Prop) → Prop
  | _, [] => True
  | k, S :: Ss => Keeps (al k) S ∧ AllKeep al (k + 1) Ss
theorem AllKeep.at_ {al : Nat → Bool} : ∀ (k : Nat) (Ss : List (Value → World → Prop)), AllKeep al k Ss → ∀ i, Keeps (al (k + i)) (sAt Ss i)
  | _, [], _, i => fun _ _ _ _ _ _ _ => by simp [sAt]
  | k, S :: Ss, h, 0 => h.1
  | k, S :: Ss, h, i + 1 => by
    have := AllKeep.at_ (k + 1) Ss h.2 i
    rw [show k + (i + 1) = k + 1 + i by omega]
    exact this
theorem StG.act {al : Nat → Bool} {pre : Nat → Option Nat} {S : Nat → Value → World → Prop} {a : Act} {w : World} (st : StG ops W a0 n al pre S (headArr n ops.size) a w) : a = putVals (dstsOf ops n) (fun d => a.eval (.tmp d)) a0 := by
  have h : St ops W a0 n (fun _ => false) (fun _ _ _ => True) (headArr n ops.size) a w := ⟨st.cl, st.df, st.size, st.frame, fun _ _ _ _ _ => trivial, fun _ _ _ h => (by cases h), fun _ _ _ _ _ _ h => (by cases h)⟩
  exact h.act
/-- The region, with the act at the end written out. -/
theorem region_grow {id : Nat} {Q : Exit → Act → World → Prop} {l : List Oper} (n M : Nat) (al : Nat → Bool) (pre : Nat → Option Nat) (Ss : List (Value → World → Prop)) (ds : List Tmp) (hds : dstsOf l.toArray n = ds) (hm : P.follows .mixedOrders = true) (hB : specB .any l.toArray n M = true) (hpre : preB .any l.toArray n al pre = true) (hM : M ≤ a0.tmps.size)
    (mono : AllKeep al 0 Ss) (hst : StepsG P l.toArray .any W a0 n al pre (sAt Ss) Q n 0 l)
    (hend : ∀ (val : Tmp → Value) w, Cl W w → (∀ i d, i < n → (∀ k, k < n → pre k ≠ some i) → dstOf l.toArray i = some d → sAt Ss i (val d) w) →
      (∀ i j d d' b, i < n → j < n → (∀ k, k < n → pre k ≠ some i) → (∀ k, k < n → pre k ≠ some j) → al i = true → al j = true → i ≠ j → dstOf l.toArray i = some d → dstOf l.toArray j = some d' → home (val d) = some b → home (val d') ≠ some b) →
      (∀ i d b, i < n → (∀ k, k < n → pre k ≠ some i) → al i = true → dstOf l.toArray i = some d → home (val d) = some b → W.heap.size ≤ b ∧ b < w.heap.size) → wpList P l.toArray Q (l.drop n) (putVals ds val a0) w) : (Code.region id l.toArray true).wp P Q a0 W := by
  have hB2 := hB
  simp only [specB, Bool.and_eq_true, decide_eq_true_eq] at hB2
  obtain ⟨⟨⟨⟨⟨hn, hs⟩, hc⟩, hback⟩, hdst⟩, hseq⟩ := hB2
  refine wp_region_any hm ?_
  have hrep : ∀ i, (Array.replicate l.toArray.size false).getD i false = false := fun i => getD_replicate_false _ _
  refine growAny (W := W) (a0 := a0) (al := al) (pre := pre) (S := sAt Ss) (l := l) rfl hB hM hpre (fun i => ?_) (fun i o hi ho => ?_) (fun a w st => ?_) _ _ _ _ ?_ ?_ ?_
  · have := AllKeep.at_ 0 Ss mono i
    rwa [Nat.zero_add] at this
  · have := StepsG.at_ n 0 l hst i o hi (by simpa using ho)
    rwa [Nat.zero_add] at this
  · rw [st.act, hds]
    have hl : ∀ i, i < n → (headArr n l.toArray.size).getD i false = true := fun i hi => head_true hi
    have hd : ∀ i, (∀ k, k < n → pre k ≠ some i) → ¬ Dead n pre (headArr n l.toArray.size) i := fun i h ⟨k, hk, hkp, _⟩ => h k hk hkp
    exact hend (fun d => a.eval (.tmp d)) w st.cl (fun i d hi hf hd' => st.vals i hi (hl i hi) (hd i hf) d hd') (fun i j d d' b hi hj hfi hfj hai haj hij hdi hdj => st.apart i j hi hj (hl i hi) (hl j hj) (hd i hfi) (hd j hfj) hai haj hij d d' b hdi hdj) (fun i d b hi hf hai hdi => st.laid i hi (hl i hi) (hd i hf) hai d b hdi)
  · have := lacking_new l.toArray.size
    simpa using this
  · refine ⟨⟨by simp, fun j oj _ hl _ _ _ => ?_, fun t _ hts => ?_⟩, fun i hi => by omega⟩
    · rw [hrep] at hl; cases hl
    · exact getD_in (by simpa using hts) (hrep t)
  · refine ⟨Cl.drew W, rfl, rfl, fun _ _ => rfl, fun i _ h => ?_, fun i _ h => ?_, fun i j _ _ h => ?_⟩ <;> (rw [hrep] at h; cases h)
end
end Go.Proofs.Ytdfalneiapeegaa
