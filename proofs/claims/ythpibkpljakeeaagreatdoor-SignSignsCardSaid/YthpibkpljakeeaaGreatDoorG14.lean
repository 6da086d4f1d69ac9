/- Texts laid together. -/
import Derived.Test.YthpibkpljakeeaaGreatDoorG7
import Derived.Test.YthpibkpljakeeaaGreatDoorApp
import Derived.Test.YthpibkpljakeeaaGreatDoorArr
import Derived.Great.BuildSlice
namespace Go.Proofs.YthpibkpljakeeaaGreatDoor
open Go Go.RowKit
section
variable {P : Program} {ops : Array Oper} {md : Region.Mode} {W : World} {a0 : Act} {n : Nat}
def rowOf (ops : Array Oper) (pre : Nat → Option Nat) (a : Act) (i : Nat) : Option Nat := ((pre i).bind (dstOf ops)).bind fun d => home (a.eval (.tmp d))
def Dead (n : Nat) (pre : Nat → Option Nat) (listed : Array Bool) (p : Nat) : Prop := ∃ i, i < n ∧ pre i = some p ∧ listed.getD i false = true
def StepG (P : Program) (ops : Array Oper) (md : Region.Mode) (W : World) (a0 : Act) (n : Nat) (al : Nat → Bool) (pre : Nat → Option Nat) (S : Nat → Value → World → Prop) (Q : Exit → Act → World → Prop) (i : Nat) (o : Oper) : Prop :=
 ∀ a w, Cl W w → (∀ t, (∀ j, j < n → dstOf ops j ≠ some t) → a.tmps[t]? = a0.tmps[t]?) → (∀ j d, j < n → Region.waitsFor md ops i j = true → dstOf ops j = some d → S j (a.eval (.tmp d)) w) →
   if Region.wanted o (yielded ops a.tmps) = true then o.wp P a w (fun a' w' => ∃ v, a' = a.put o.dst v ∧ S i v w' ∧ w.grownBy w' (rowOf ops pre a i) ∧ (al i = true → ∀ b, home v = some b → (w.heap.size ≤ b ∨ rowOf ops pre a i = some b) ∧ b < w'.heap.size)) Q else S i undef w ∧ al i = false
theorem StepOk.up {al : Nat → Bool} {pre : Nat → Option Nat} {S : Nat → Value → World → Prop} {Q : Exit → Act → World → Prop} {i : Nat} {o : Oper} (h : StepOk P ops md W a0 n al S Q i o) : StepG P ops md W a0 n al pre S Q i o := fun a w hw hf hd => by
 have h := h a w hw hf hd
 split at h
 · rename_i hw
   rw [if_pos hw]
   refine Oper.wp_mono (fun a' w' h' => ?_) h
   obtain ⟨v, e, hs, hb, hh⟩ := h'
   refine ⟨v, e, hs, grown_of_below hb _, fun e b he => ?_⟩
   obtain ⟨b', h1, h2, h3⟩ := hh e
   rw [h1] at he
   injection he with he
   subst he
   exact ⟨.inl h2, h3⟩
 · rename_i hw
   rw [if_neg hw]
   exact h
structure StG (ops : Array Oper) (W : World) (a0 : Act) (n : Nat) (al : Nat → Bool) (pre : Nat → Option Nat) (S : Nat → Value → World → Prop) (listed : Array Bool) (a : Act) (w : World) : Prop where
 cl : Cl W w
 df : a.defers = a0.defers
 size : a.tmps.size = a0.tmps.size
 frame : ∀ t, (∀ i, i < n → listed.getD i false = true → dstOf ops i ≠ some t) → a.tmps[t]? = a0.tmps[t]?
 vals : ∀ i, i < n → listed.getD i false = true → ¬ Dead n pre listed i → ∀ d, dstOf ops i = some d → S i (a.eval (.tmp d)) w
 laid : ∀ i, i < n → listed.getD i false = true → ¬ Dead n pre listed i → al i = true → ∀ d b, dstOf ops i = some d → home (a.eval (.tmp d)) = some b → W.heap.size ≤ b ∧ b < w.heap.size
 apart : ∀ i j, i < n → j < n → listed.getD i false = true → listed.getD j false = true → ¬ Dead n pre listed i → ¬ Dead n pre listed j → al i = true → al j = true → i ≠ j → ∀ d d' b, dstOf ops i = some d → dstOf ops j = some d' → home (a.eval (.tmp d)) = some b → home (a.eval (.tmp d')) ≠ some b
def Keeps (b : Bool) (S : Value → World → Prop) : Prop := ∀ v w w' row, S v w → w.grownBy w' row → (b = true → ∀ g, row = some g → home v ≠ some g) → S v w'
def preB (md : Region.Mode) (ops : Array Oper) (n : Nat) (al : Nat → Bool) (pre : Nat → Option Nat) : Bool := (List.range n).all fun i => match pre i with
 | some p => decide (p < n) && !(p == i) && al p && Region.waitsFor md ops i p && (List.range n).all (fun k => (k == i) || ((!Region.waitsFor md ops k p || Region.waitsFor md ops i k) && !(pre k == some p)))
 | none => true
theorem pre_spec {al : Nat → Bool} {pre : Nat → Option Nat} (h : preB md ops n al pre = true) {i p : Nat} (hi : i < n) (hp : pre i = some p) : p < n ∧ p ≠ i ∧ al p = true ∧ Region.waitsFor md ops i p = true ∧ ∀ k, k < n → (Region.waitsFor md ops k p = true → k = i ∨ Region.waitsFor md ops i k = true) := by
 have h1 := List.all_eq_true.1 h i (List.mem_range.2 hi)
 rw [hp] at h1
 simp only [Bool.and_eq_true, decide_eq_true_eq, Bool.not_eq_true', beq_eq_false_iff_ne] at h1
 obtain ⟨⟨⟨⟨h1, h2⟩, h3⟩, h4⟩, h5⟩ := h1
 refine ⟨h1, h2, h3, h4, fun k hk hw => ?_⟩
 have h6 := List.all_eq_true.1 h5 k (List.mem_range.2 hk)
 simp only [Bool.or_eq_true, Bool.and_eq_true, Bool.not_eq_true', beq_eq_false_iff_ne, beq_iff_eq] at h6
 rcases h6 with h6 | ⟨h6 | h6, h7⟩
 · exact .inl h6
 · rw [hw] at h6; cases h6
 · exact .inr h6
theorem StG.step {al : Nat → Bool} {pre : Nat → Option Nat} {S : Nat → Value → World → Prop} {M : Nat} {Q : Exit → Act → World → Prop} {listed : Array Bool} {a : Act} {w : World} {i : Nat} {o : Oper} (hdst : dstB ops n M = true) (hM : M ≤ a0.tmps.size) (hpre : preB md ops n al pre = true)
   (mono : ∀ i, Keeps (al i) (S i)) (hst : StepG P ops md W a0 n al pre S Q i o) (st : StG ops W a0 n al pre S listed a w) (hin : i < n) (ho : ops[i]? = some o) (hil : i < listed.size) (hun : listed.getD i false = false)
   (hdeps : ∀ j, Region.waitsFor md ops i j = true → listed.getD j false = true) (hclo : ∀ k, listed.getD k false = true → Region.waitsFor md ops k i = true → listed.getD i false = true) (K : Act → World → Prop) (hK : ∀ a' w', StG ops W a0 n al pre S (listed.setIfInBounds i true) a' w' → K a' w') : wpOp P ops Q i K a w := by
 obtain ⟨d, hd, hdl, hdu⟩ := dst_spec hdst hM i hin
 have hod : o.dst = some d := by unfold dstOf at hd; rw [ho] at hd; exact hd
 have alive : ∀ j, Region.waitsFor md ops i j = true → ¬ Dead n pre listed j := fun j hw ⟨k, hk, hkp, hkl⟩ => by
   rcases (pre_spec hpre hk hkp).2.2.2.2 i hin hw with h | h
   · rw [← h, hun] at hkl; cases hkl
   · have := hclo k hkl h
     rw [hun] at this; cases this
 have hstep := hst a w st.cl (fun t ht => st.frame t (fun j hj _ => ht j hj)) (fun j dj hj hw hdj => st.vals j hj (hdeps j hw) (alive j hw) dj hdj)
 have hset : ∀ j, (listed.setIfInBounds i true).getD j false = true → j = i ∨ listed.getD j false = true := fun j hj => by
   by_cases e : i = j
   · exact .inl e.symm
   · rw [getD_set_ne false e] at hj; exact .inr hj
 have hold : ∀ j, ¬ Dead n pre (listed.setIfInBounds i true) j → ¬ Dead n pre listed j := fun j h ⟨k, hk, hkp, hkl⟩ => h ⟨k, hk, hkp, getD_set_true hkl⟩
 have hrow : ∀ g, rowOf ops pre a i = some g → ∃ p dp, pre i = some p ∧ dstOf ops p = some dp ∧ home (a.eval (.tmp dp)) = some g ∧ p < n ∧ p ≠ i ∧ al p = true ∧ listed.getD p false = true ∧ ¬ Dead n pre listed p := fun g hg => by
   unfold rowOf at hg
   cases hp : pre i with
   | none => rw [hp] at hg; cases hg
   | some p =>
     rw [hp] at hg
     cases hdp : dstOf ops p with
     | none => simp [hdp] at hg
     | some dp =>
       simp only [Option.bind_some, hdp] at hg
       obtain ⟨h1, h2, h3, h4, _⟩ := pre_spec hpre hin hp
       exact ⟨p, dp, rfl, hdp, hg, h1, h2, h3, hdeps p h4, alive p h4⟩
 have hrowB : ∀ g, rowOf ops pre a i = some g → W.heap.size ≤ g ∧ g < w.heap.size := fun g hg => by
   obtain ⟨p, dp, _, hdp, hh, hpn, _, hap, hpl, hpa⟩ := hrow g hg
   exact st.laid p hpn hpl hpa hap dp g hdp hh
 have hrowA : ∀ g, rowOf ops pre a i = some g → ∀ j dj, j < n → j ≠ i → listed.getD j false = true → ¬ Dead n pre (listed.setIfInBounds i true) j → al j = true → dstOf ops j = some dj → home (a.eval (.tmp dj)) ≠ some g := fun g hg j dj hj _ hjl hja haj hdj => by
   obtain ⟨p, dp, hp, hdp, hh, hpn, _, hap, hpl, hpa⟩ := hrow g hg
   have hne : p ≠ j := fun e => hja ⟨i, hin, by rw [← e]; exact hp, by simp [hil]⟩
   exact st.apart p j hpn hj hpl hjl hpa (hold j hja) hap haj hne dp dj g hdp hdj hh
 have next : ∀ v w', S i v w' → w.grownBy w' (rowOf ops pre a i) → (al i = true → ∀ b, home v = some b → (w.heap.size ≤ b ∨ rowOf ops pre a i = some b) ∧ b < w'.heap.size) → StG ops W a0 n al pre S (listed.setIfInBounds i true) (a.put o.dst v) w' := fun v w' hv hb hal => by
   rw [hod]
   have same : (a.put (some d) v).eval (.tmp d) = v := by
     have h1 : d < a.tmps.size := by rw [st.size]; exact hdl
     simp [Act.put, Act.eval, Array.getD, h1]
   have other : ∀ dj, d ≠ dj → (a.put (some d) v).eval (.tmp dj) = a.eval (.tmp dj) := fun dj hne => by
     simp only [Act.put, Act.eval, Array.getD_eq_getD_getElem?]
     rw [Array.getElem?_setIfInBounds_ne hne]
   have dne : ∀ j dj, j < n → j ≠ i → dstOf ops j = some dj → d ≠ dj := fun j dj hj e hdj e2 => e (hdu j hj (by rw [hdj, e2])).symm
   have hsz : W.heap.size ≤ w.heap.size := Below.size st.cl
   have mine : al i = true → ∀ b, home v = some b → (W.heap.size ≤ b ∧ b < w'.heap.size) ∧ ∀ j dj, j < n → j ≠ i → listed.getD j false = true → ¬ Dead n pre (listed.setIfInBounds i true) j → al j = true → dstOf ops j = some dj → home (a.eval (.tmp dj)) ≠ some b := fun hai b hb' => by
     obtain ⟨h1, h2⟩ := hal hai b hb'
     rcases h1 with h1 | h1
     · refine ⟨⟨by omega, h2⟩, fun j dj hj _ hjl hja haj hdj e => ?_⟩
       have := (st.laid j hj hjl (hold j hja) haj dj b hdj e).2
       omega
     · exact ⟨⟨(hrowB b h1).1, h2⟩, fun j dj hj hji hjl hja haj hdj => hrowA b h1 j dj hj hji hjl hja haj hdj⟩
   refine ⟨Below.grown st.cl hb hsz (fun g hg => (hrowB g hg).1), st.df, by simp [Act.put, st.size], fun t ht => ?_, fun j hj hlj hja dj hdj => ?_, fun j hj hlj hja haj dj b hdj he => ?_, fun j k hj hk hlj hlk hja hka haj hak hjk dj dk b hdj hdk he => ?_⟩
   · have hne : d ≠ t := fun e => ht i hin (by simp [hil]) (by rw [hd, e])
     show (a.tmps.setIfInBounds d v)[t]? = _
     rw [Array.getElem?_setIfInBounds_ne hne]
     exact st.frame t fun k hk hlk => ht k hk (getD_set_true hlk)
   · by_cases e : j = i
     · subst e
       obtain rfl : dj = d := Option.some.inj (hdj.symm.trans hd)
       rw [same]; exact hv
     · rw [other dj (dne j dj hj e hdj)]
       have hjl := (hset j hlj).resolve_left e
       exact mono j _ _ _ _ (st.vals j hj hjl (hold j hja) dj hdj) hb fun haj g hg => hrowA g hg j dj hj e hjl hja haj hdj
   · by_cases e : j = i
     · subst e
       obtain rfl : dj = d := Option.some.inj (hdj.symm.trans hd)
       rw [same] at he
       exact (mine haj b he).1
     · rw [other dj (dne j dj hj e hdj)] at he
       obtain ⟨h1, h2⟩ := st.laid j hj ((hset j hlj).resolve_left e) (hold j hja) haj dj b hdj he
       exact ⟨h1, Nat.lt_of_lt_of_le h2 hb.size⟩
   · by_cases e : j = i
     · subst e
       obtain rfl : dj = d := Option.some.inj (hdj.symm.trans hd)
       have e2 : k ≠ j := Ne.symm hjk
       rw [same] at he
       rw [other dk (dne k dk hk e2 hdk)]
       exact (mine haj b he).2 k dk hk e2 ((hset k hlk).resolve_left e2) hka hak hdk
     · by_cases e2 : k = i
       · subst e2
         obtain rfl : dk = d := Option.some.inj (hdk.symm.trans hd)
         rw [other dj (dne j dj hj e hdj)] at he
         rw [same]
         intro he2
         exact (mine hak b he2).2 j dj hj e ((hset j hlj).resolve_left e) hja haj hdj he
       · rw [other dj (dne j dj hj e hdj)] at he
         rw [other dk (dne k dk hk e2 hdk)]
         exact st.apart j k hj hk ((hset j hlj).resolve_left e) ((hset k hlk).resolve_left e2) (hold j hja) (hold k hka) haj hak hjk dj dk b hdj hdk he
 unfold wpOp
 simp only [ho]
 split at hstep
 · rename_i hw
   rw [if_pos hw]
   left
   refine Oper.wp_mono (fun a' w' h' => ?_) hstep
   obtain ⟨v, rfl, hv, hb, hal⟩ := h'
   exact hK _ _ (next v w' hv hb hal)
 · rename_i hw
   rw [if_neg hw]
   exact hK _ _ (next undef w hstep.1 (World.grownBy.refl w _) (fun h => by rw [hstep.2] at h; cases h))
theorem growAny {al : Nat → Bool} {pre : Nat → Option Nat} {S : Nat → Value → World → Prop} {M : Nat} {Q : Exit → Act → World → Prop} {l : List Oper} (hl : ops = l.toArray) (hB : specB md ops n M = true) (hM : M ≤ a0.tmps.size) (hpre : preB md ops n al pre = true)
   (mono : ∀ i, Keeps (al i) (S i)) (hst : ∀ i o, i < n → ops[i]? = some o → StepG P ops md W a0 n al pre S Q i o)
   (hend : ∀ a w, StG ops W a0 n al pre S (headArr n ops.size) a w → wpList P ops Q (l.drop n) a w) :
   ∀ (F : Nat) (listed : Array Bool) (a : Act) (w : World), lacking listed.toList = F → HInv md ops 0 n listed → StG ops W a0 n al pre S listed a w → wpAny P md ops Q F listed a w := by
 simp only [specB, Bool.and_eq_true, decide_eq_true_eq] at hB
 obtain ⟨⟨⟨⟨⟨hn, hs⟩, hc⟩, hback⟩, hdst⟩, hseq⟩ := hB
 intro F
 induction F with
 | zero =>
   intro listed a w hF inv _
   exfalso
   have h1 := inv.inv.tail n (Nat.le_refl _) hn
   have h2 : listed.toList[n]? = some false := by
     have := inv.inv.size
     rw [Array.getD_eq_getD_getElem?] at h1
     rw [Array.getElem?_toList]
     cases h3 : listed[n]? with
     | none => rw [h3] at h1; simp at h1
     | some b => rw [h3] at h1; simp at h1; rw [h1]
   have := lacking_set _ n h2
   omega
 | succ F ih =>
   intro listed a w hF inv st
   have hsz := inv.inv.size
   by_cases hall : ∀ i, i < n → listed.getD i false = true
   · have e : listed = headArr n ops.size := by
       apply Array.ext (by simp [headArr]; omega)
       intro i h1 h2
       by_cases hi : i < n
       · have := hall i hi
         have h3 : (headArr n ops.size)[i] = true := by
           simp [headArr, List.getElem_append_left, hi]
         rw [h3]
         simpa [h1] using this
       · have := inv.inv.tail i (by omega) (by omega)
         have h3 : (headArr n ops.size)[i] = false := by
           simp only [headArr, List.getElem_toArray]
           rw [List.getElem_append_right (by simp; omega)]
           simp
         rw [h3]
         simpa [h1] using this
     subst e
     have hg : lacking (headArr n ops.size).toList = ops.size - n := lacking_head n _
     have hlen : (l.drop n).length = ops.size - n := by rw [hl]; simp
     have h3 := wpAny_of_seq (P := P) (ops := ops) (md := md) (Q' := Q) (l.drop n) n (headArr n ops.size) a w (fun j => by rw [hl]; simp [List.getElem?_drop]) (by rw [hlen]; exact hseq) (hend a w st)
     rw [hlen, ← hg, hF] at h3
     exact h3
   · have hex : ∃ i, i < n ∧ listed.getD i false = false := by
       refine Classical.byContradiction fun hno => hall fun j hj => ?_
       cases h : listed.getD j false with
       | true => rfl
       | false => exact absurd ⟨j, hj, h⟩ hno
     obtain ⟨i0, hi0, hl0⟩ := hex
     obtain ⟨j0, _, hr0⟩ := first_ready (md := md) hback hsz i0 (by omega) hl0
     refine ⟨fun h => absurd hr0 (by rw [h]; simp), fun i hi => ?_⟩
     have hin : i < n := Nat.lt_of_not_le fun h => tail_later hs hc inv _ i0 rfl hi0 (getD_in (by omega) hl0) i h hi
     obtain ⟨hun, o, ho, hafter⟩ := mem_ready.1 hi
     have hFn : lacking (listed.setIfInBounds i true).toList = F := by
       have h2 : listed.toList[i]? = some false := by
         rw [Array.getD_eq_getD_getElem?] at hun
         rw [Array.getElem?_toList]
         cases h3 : listed[i]? with
         | none => rw [h3] at hun; simp at hun
         | some b => rw [h3] at hun; simp at hun; rw [hun]
       have := lacking_set _ i h2
       have e : (listed.setIfInBounds i true).toList = listed.toList.set i true := by simp
       rw [e]; omega
     have hil : i < listed.size := by
       have := (Array.getElem?_eq_some_iff.1 ho).1
       omega
     have hun2 : listed.getD i false = false := by
       rw [Array.getD_eq_getD_getElem?] at hun ⊢
       cases h3 : listed[i]? with
       | none => rfl
       | some b => rw [h3] at hun; simpa using hun
     refine StG.step hdst hM hpre mono (hst i o hin ho) st hin ho hil hun2 (fun j hw => ?_) (fun k hk hw => ?_) _ (fun a' w' st' => ih _ _ _ hFn (inv.set hi hin) st')
     rotate_left
     · obtain ⟨o', ho', e, he, hb, hon⟩ := Region.waitsFor_spec hw
       rw [← hon]
       exact inv.inv.closed k o' ho' hk e he hb
     obtain ⟨o', ho', e, he, hb, hon⟩ := Region.waitsFor_spec hw
     obtain rfl : o' = o := Option.some.inj (ho'.symm.trans ho)
     rw [← hon]
     exact hafter e he hb
def StepsG (P : Program) (ops : Array Oper) (md : Region.Mode) (W : World) (a0 : Act) (n : Nat) (al : Nat → Bool) (pre : Nat → Option Nat) (S : Nat → Value → World → Prop) (Q : Exit → Act → World → Prop) : Nat → Nat → List Oper → Prop
 | 0, _, _ => True
 | _ + 1, _, [] => True
 | m + 1, k, o :: l => StepG P ops md W a0 n al pre S Q k o ∧ StepsG P ops md W a0 n al pre S Q m (k + 1) l
theorem StepsG.at_ {al : Nat → Bool} {pre : Nat → Option Nat} {S : Nat → Value → World → Prop} {Q : Exit → Act → World → Prop} : ∀ (m k : Nat) (l : List Oper), StepsG P ops md W a0 n al pre S Q m k l → ∀ i o, i < m → l[i]? = some o → StepG P ops md W a0 n al pre S Q (k + i) o
 | 0, _, _, _, _, _, hi, _ => by omega
 | m + 1, k, [], _, i, o, _, ho => by simp at ho
 | m + 1, k, o' :: l, h, 0, o, _, ho => by
   simp at ho; subst ho; exact h.1
 | m + 1, k, o' :: l, h, i + 1, o, hi, ho => by
   have := StepsG.at_ m (k + 1) l h.2 i o (by omega) (by simpa using ho)
   rw [show k + (i + 1) = k + 1 + i by omega]; exact this
def AllKeep (al : Nat → Bool) : Nat → List (Value → World → Prop) → Prop
 | _, [] => True
 | k, S :: Ss => Keeps (al k) S ∧ AllKeep al (k + 1) Ss
theorem AllKeep.at_ {al : Nat → Bool} : ∀ (k : Nat) (Ss : List (Value → World → Prop)), AllKeep al k Ss → ∀ i, Keeps (al (k + i)) (sAt Ss i)
 | _, [], _, i => fun _ _ _ _ _ _ _ => by simp [sAt]
 | k, S :: Ss, h, 0 => h.1
 | k, S :: Ss, h, i + 1 => by
   have := AllKeep.at_ (k + 1) Ss h.2 i
   rw [show k + (i + 1) = k + 1 + i by omega]
   exact this
theorem StG.act {al : Nat → Bool} {pre : Nat → Option Nat} {S : Nat → Value → World → Prop} {a : Act} {w : World} (st : StG ops W a0 n al pre S (headArr n ops.size) a w) : a = putVals (dstsOf ops n) (fun d => a.eval (.tmp d)) a0 := by
 have h : St ops W a0 n (fun _ => false) (fun _ _ _ => True) (headArr n ops.size) a w := ⟨st.cl, st.df, st.size, st.frame, fun _ _ _ _ _ => trivial, fun _ _ _ h => (by cases h), fun _ _ _ _ _ _ h => (by cases h)⟩
 exact h.act
theorem region_grow {id : Nat} {Q : Exit → Act → World → Prop} {l : List Oper} (n M : Nat) (al : Nat → Bool) (pre : Nat → Option Nat) (Ss : List (Value → World → Prop)) (ds : List Tmp) (hds : dstsOf l.toArray n = ds) (hm : P.follows .mixedOrders = true) (hB : specB .any l.toArray n M = true) (hpre : preB .any l.toArray n al pre = true) (hM : M ≤ a0.tmps.size)
   (mono : AllKeep al 0 Ss) (hst : StepsG P l.toArray .any W a0 n al pre (sAt Ss) Q n 0 l)
   (hend : ∀ (val : Tmp → Value) w, Cl W w → (∀ i d, i < n → (∀ k, k < n → pre k ≠ some i) → dstOf l.toArray i = some d → sAt Ss i (val d) w) →
     (∀ i j d d' b, i < n → j < n → (∀ k, k < n → pre k ≠ some i) → (∀ k, k < n → pre k ≠ some j) → al i = true → al j = true → i ≠ j → dstOf l.toArray i = some d → dstOf l.toArray j = some d' → home (val d) = some b → home (val d') ≠ some b) →
     (∀ i d b, i < n → (∀ k, k < n → pre k ≠ some i) → al i = true → dstOf l.toArray i = some d → home (val d) = some b → W.heap.size ≤ b ∧ b < w.heap.size) → wpList P l.toArray Q (l.drop n) (putVals ds val a0) w) : (Code.region id l.toArray true).wp P Q a0 W := by
 have hB2 := hB
 simp only [specB, Bool.and_eq_true, decide_eq_true_eq] at hB2
 obtain ⟨⟨⟨⟨⟨hn, hs⟩, hc⟩, hback⟩, hdst⟩, hseq⟩ := hB2
 refine wp_region_any hm ?_
 have hrep : ∀ i, (Array.replicate l.toArray.size false).getD i false = false := fun i => getD_replicate_false _ _
 refine growAny (W := W) (a0 := a0) (al := al) (pre := pre) (S := sAt Ss) (l := l) rfl hB hM hpre (fun i => ?_) (fun i o hi ho => ?_) (fun a w st => ?_) _ _ _ _ ?_ ?_ ?_
 · have := AllKeep.at_ 0 Ss mono i
   rwa [Nat.zero_add] at this
 · have := StepsG.at_ n 0 l hst i o hi (by simpa using ho)
   rwa [Nat.zero_add] at this
 · rw [st.act, hds]
   have hl : ∀ i, i < n → (headArr n l.toArray.size).getD i false = true := fun i hi => head_true hi
   have hd : ∀ i, (∀ k, k < n → pre k ≠ some i) → ¬ Dead n pre (headArr n l.toArray.size) i := fun i h ⟨k, hk, hkp, _⟩ => h k hk hkp
   exact hend (fun d => a.eval (.tmp d)) w st.cl (fun i d hi hf hd' => st.vals i hi (hl i hi) (hd i hf) d hd') (fun i j d d' b hi hj hfi hfj hai haj hij hdi hdj => st.apart i j hi hj (hl i hi) (hl j hj) (hd i hfi) (hd j hfj) hai haj hij d d' b hdi hdj) (fun i d b hi hf hai hdi => st.laid i hi (hl i hi) (hd i hf) hai d b hdi)
 · have := lacking_new l.toArray.size
   simpa using this
 · refine ⟨⟨by simp, fun j oj _ hl _ _ _ => ?_, fun t _ hts => ?_⟩, fun i hi => by omega⟩
   · rw [hrep] at hl; cases hl
   · exact getD_in (by simpa using hts) (hrep t)
 · refine ⟨Cl.drew W, rfl, rfl, fun _ _ => rfl, fun i _ h => ?_, fun i _ h => ?_, fun i j _ _ h => ?_⟩ <;> (rw [hrep] at h; cases h)
end
def Rw (w : World) (b o : Nat) (vs : List Value) : Prop := ∀ i v, vs[i]? = some v → w.cell? ⟨b, o + i, none⟩ = some v ∧ w.frozen? ⟨b, o + i, none⟩ = false
section
variable {w w' : World} {b o o' : Nat} {vs us : List Value}
theorem Rw.range (h : Rw w b o vs) : w.rangeAt b o vs := fun j v hv => (h j v hv).1
theorem Rw.there (h : Rw w b o vs) : w.there b o vs.length := fun j hj => ⟨by rw [(h j vs[j] (by simp [hj])).1]; rfl, (h j vs[j] (by simp [hj])).2⟩
theorem Rw.of (h1 : w.rangeAt b o vs) (h2 : w.there b o vs.length) : Rw w b o vs := fun i v hi => ⟨h1 i v hi, (h2 i (List.getElem?_eq_some_iff.1 hi).1).2⟩
theorem Rw.lt (h : Rw w b o vs) (hp : 0 < vs.length) : b < w.heap.size := World.block_lt_of_cell? w _ (h 0 vs[0] (by simp [hp])).1
theorem Rw.same (h : Rw w b o vs) (he : w'.heap[b]? = w.heap[b]?) : Rw w' b o vs := fun i v hi => by
 rw [World.cell?_of_block (a := ⟨b, o + i, none⟩) he, World.frozen?_of_block (a := ⟨b, o + i, none⟩) he]
 exact h i v hi
theorem Rw.next (h : Rw w b o vs) (hb : Below w.heap.size w w') : Rw w' b o vs := fun i v hi => h.same (hb.block b (World.block_lt_of_cell? w _ (h i v hi).1)) i v hi
theorem Rw.grown {row : Option Nat} (h : Rw w b o vs) (hb : w.grownBy w' row) (hr : row ≠ some b) : Rw w' b o vs := fun i v hi => h.same (hb.block b (World.block_lt_of_cell? w _ (h i v hi).1) (fun e => hr e.symm)) i v hi
theorem Rw.left (h : Rw w b o (vs ++ us)) : Rw w b o vs := fun i v hi => h i v (by rw [List.getElem?_append_left (List.getElem?_eq_some_iff.1 hi).1]; exact hi)
theorem Rw.right (h : Rw w b o (vs ++ us)) (e : o' = o + vs.length) : Rw w b o' us := fun i v hi => by
 have h1 := h (vs.length + i) v (by rw [List.getElem?_append_right (by omega), Nat.add_sub_cancel_left]; exact hi)
 rwa [← Nat.add_assoc, ← e] at h1
theorem Rw.past (h : Rw w b o vs) {b' : Nat} (hne : b' ≠ b) (o' : Nat) (us : List Value) : Rw (w.setCells b' o' us) b o vs := fun i v hi => by
 rw [World.frozen?_setCells, World.cell?_setCells_out _ _ _ _ _ (fun e _ => absurd e.symm hne)]
 exact h i v hi
theorem Rw.stored (h : Rw w b o vs) (e : us.length = vs.length) : Rw (w.setCells b o us) b o us := by
 have ht : w.there b o us.length := by rw [e]; exact h.there
 exact Rw.of (World.rangeAt_setCells_same w b o us ht) (World.there_setCells ht b o us)
theorem Rw.roomA (h : Rw w b o vs) (e : us.length = vs.length) : w.there b o us.toArray.size := by
 have := h.there
 rw [← e] at this
 exact this
theorem Rw.storedA (h : Rw w b o vs) (e : us.length = vs.length) : Rw (w.setCells b o us.toArray.toList) b o us := h.stored e
theorem Rw.pastA (h : Rw w b o vs) {b' : Nat} (hne : b' ≠ b) (o' : Nat) (us : List Value) : Rw (w.setCells b' o' us.toArray.toList) b o vs := h.past hne o' us
theorem szV {P : Program} {T m : Nat} {z : Value} (h : (P.info? T).map (fun i => (i.zero, i.size)) = some (some z, m)) (hv : vs.length = m) : (P.info? T).map (·.size) = some vs.length := by
 cases hc : P.info? T with
 | none => rw [hc] at h; simp at h
 | some i =>
   rw [hc] at h
   simp only [Option.map_some, Option.some.injEq, Prod.mk.injEq] at h
   simp [h.2, hv]
theorem szA {P : Program} {T m : Nat} {z : Value} (h : (P.info? T).map (fun i => (i.zero, i.size)) = some (some z, m)) (hv : vs.length = m) : (P.info? T).map (·.size) = some vs.toArray.size := szV h hv
theorem il {k : IntKind} {l : List Int} {m : Nat} (h : l.length = m) : (ints k l).length = m := by rw [ints_length]; exact h
theorem Rw.new (w : World) (vs : List Value) (T : TypeId) : Rw (w.alloc (.cells vs.toArray T)) w.heap.size 0 vs := fun i v hi => by
 rw [Nat.zero_add, World.cell?_alloc_new, World.frozen?_alloc_new]
 exact ⟨by simpa using hi, rfl⟩
theorem Rw.arr {k : IntKind} {xs : List Int} (h : Rw w b o (ints k xs)) : Arr w b o k xs := Arr.of h.range (by have := h.there; rwa [ints_length] at this)
theorem Rw.nums {k : IntKind} {xs : List Int} (h : Rw w b o (ints k xs)) : Nums w k (some ⟨b, o, none⟩) xs := h.arr.nums
theorem ints_app (k : IntKind) (xs ys : List Int) : ints k (xs ++ ys) = ints k xs ++ ints k ys := by simp [ints]
theorem Rw.lo {k : IntKind} {xs ys : List Int} (h : Rw w b o (ints k (xs ++ ys))) : Rw w b o (ints k xs) := by rw [ints_app] at h; exact h.left
theorem Rw.hi {k : IntKind} {xs ys : List Int} (h : Rw w b o (ints k (xs ++ ys))) (e : o' = o + xs.length) : Rw w b o' (ints k ys) := by rw [ints_app] at h; exact h.right (by rw [ints_length]; exact e)
theorem Nums.from {k : IntKind} {xs ys : List Int} (h : Nums w k (some ⟨b, o, none⟩) (xs ++ ys)) (e : o' = o + xs.length) : Nums w k (some ⟨b, o', none⟩) ys := fun hp => by
 obtain ⟨b', off, e1, hlt, hc⟩ := h (by simp; omega)
 injection e1 with e1
 injection e1 with e1 e2
 subst e1 e2
 refine ⟨b, o', rfl, hlt, fun i hi => ?_⟩
 have := hc (xs.length + i) (by simp; omega)
 rw [← Nat.add_assoc, ← e] at this
 rw [this, List.getD_eq_getElem?_getD, List.getD_eq_getElem?_getD, List.getElem?_append_right (by omega), Nat.add_sub_cancel_left]
theorem Nums.first {k : IntKind} {A : Option Addr} {xs ys : List Int} (h : Nums w k A (xs ++ ys)) : Nums w k A xs := fun hp => by
 obtain ⟨b', off, e1, hlt, hc⟩ := h (by simp; omega)
 refine ⟨b', off, e1, hlt, fun i hi => ?_⟩
 rw [hc i (by simp; omega), List.getD_eq_getElem?_getD, List.getD_eq_getElem?_getD, List.getElem?_append_left hi]
theorem Nums.range {k : IntKind} {xs : List Int} (h : Nums w k (some ⟨b, o, none⟩) xs) : w.rangeAt b o (ints k xs) := fun j v hv => by
 simp only [ints, List.getElem?_map, Option.map_eq_some_iff] at hv
 obtain ⟨x, hx, rfl⟩ := hv
 have hj := (List.getElem?_eq_some_iff.1 hx).1
 obtain ⟨b', off, e1, hlt, hc⟩ := h (by omega)
 injection e1 with e1
 injection e1 with e1 e2
 subst e1 e2
 rw [hc j hj]
 simp [List.getD, hx]
end
def IsZV (base : Nat) (zs : List Value) : Value → World → Prop := fun v w => ∃ b, v = .pointer (some ⟨b, 0, none⟩) ∧ base ≤ b ∧ Rw w b 0 zs
theorem IsZV.grows (base : Nat) (zs : List Value) : Grows (IsZV base zs) := fun _ _ _ ⟨b, h1, h0, h2⟩ hb => ⟨b, h1, h0, h2.next hb⟩
def IsRowV (base k : Nat) (vs : List Value) : Value → World → Prop := fun v w => ∃ b, v = .slice (some ⟨b, 0, none⟩) k k ∧ base ≤ b ∧ Rw w b 0 vs
theorem IsRowV.grows (base k : Nat) (vs : List Value) : Grows (IsRowV base k vs) := fun _ _ _ ⟨b, h1, h0, h2⟩ hb => ⟨b, h1, h0, h2.next hb⟩
theorem Is.keeps (b : Bool) (v : Value) : Keeps b (Is v) := fun _ _ _ _ h _ _ => h
def IsOwn (base : Nat) (e : TypeId) (k : IntKind) (xs : List Int) : Value → World → Prop := fun v w => ∃ A c, v = .slice A xs.length c ∧ Owns w base e k v xs
theorem IsOwn.keeps (base : Nat) (e : TypeId) (k : IntKind) (xs : List Int) : Keeps true (IsOwn base e k xs) := fun v w w' row ⟨A, c, h1, h2⟩ hb hr => ⟨A, c, h1, h2.keep fun g hg => hb.block g (h2.lt g hg).2 (fun e => hr rfl g e.symm (by
 rw [h1] at hg ⊢
 cases A with
 | none => cases hg
 | some a => exact hg))⟩
theorem IsOwn.grows (base : Nat) (e : TypeId) (k : IntKind) (xs : List Int) : Grows (IsOwn base e k xs) := fun _ _ _ ⟨A, c, h1, h2⟩ hb => ⟨A, c, h1, h2.stay hb⟩
section
variable {P : Program} {ops : Array Oper} {md : Region.Mode} {W : World} {a0 : Act} {n : Nat} {al : Nat → Bool} {S : Nat → Value → World → Prop} {Q : Exit → Act → World → Prop} {i : Nat} {o : Oper}
def KnowsW (ops : Array Oper) (md : Region.Mode) (W : World) (a0 : Act) (n : Nat) (S : Nat → Value → World → Prop) (i : Nat) (x : Operand) (R : Value → World → Prop) : Prop := ∀ (a : Act) (w : World), Cl W w → Fr ops n a0 a → Dp ops md n S i a w → R (a.eval x) w
theorem knowsW_in (j d : Nat) {R : Value → World → Prop} (hj : j < n) (hw : Region.waitsFor md ops i j = true) (hd : dstOf ops j = some d) (hS : S j = R) : KnowsW ops md W a0 n S i (.tmp d) R := fun a w _ _ hdp => by
 have h := hdp j d hj hw hd
 rw [hS] at h
 exact h
theorem KnowsW.and {x : Operand} {R R' : Value → World → Prop} (h : KnowsW ops md W a0 n S i x R) (hR : ∀ v w, Cl W w → R v w → R' v w) : KnowsW ops md W a0 n S i x R' := fun a w hw hf hd => hR _ _ hw (h a w hw hf hd)
theorem step_ldV (hal : al i = false) (hg : GuardOn ops md n S i o) {T : TypeId} {x : Operand} {b f : Nat} {vs : List Value} {d : TypeDesc} (h : ∀ w, Cl W w → w.rangeAt b f vs) (ho : o.op = .load T x) (hU : P.underlying T = some d) (hR : d.isRow = true) (hs : (P.info? T).map (·.size) = some vs.length) (hS : S i = Is (.agg vs.toArray)) (hx : Knows ops md W a0 n S i x (.pointer (some ⟨b, f, none⟩))) : StepOk P ops md W a0 n al S Q i o :=
 step_run hal hg fun a w hw hf hd => ⟨_, ex_load T x ho b f (hx a w hw hf hd) vs d (h w hw) hU hR hs, by rw [hS]; exact rfl⟩
theorem step_ldW (hal : al i = false) (hg : GuardOn ops md n S i o) {T : TypeId} {x : Operand} {vs : List Value} {d : TypeDesc} (ho : o.op = .load T x) (hU : P.underlying T = some d) (hR : d.isRow = true) (hs : (P.info? T).map (·.size) = some vs.length) (hS : S i = Is (.agg vs.toArray)) (hx : KnowsW ops md W a0 n S i x (fun v w => ∃ b f, v = .pointer (some ⟨b, f, none⟩) ∧ w.rangeAt b f vs)) : StepOk P ops md W a0 n al S Q i o :=
 step_run hal hg fun a w hw hf hd => by
   obtain ⟨b, f, h1, h2⟩ := hx a w hw hf hd
   exact ⟨_, ex_load T x ho b f h1 vs d h2 hU hR hs, by rw [hS]; exact rfl⟩
theorem ex_allocV {T : TypeId} {zs : List Value} {m : Nat} (hI : (P.info? T).map (fun i => (i.zero, i.size)) = some (some (.agg zs.toArray), m)) (ev : Operand → Value) (o : Oper) (ho : o.op = .alloc T) (w : World) : (execOp ev o).run P w = .ok (.value (.pointer (some ⟨w.heap.size, 0, none⟩))) (w.alloc (.cells zs.toArray T)) := by
 obtain ⟨z, s⟩ := zero_of_info hI
 unfold execOp
 simp only [ho]
 go_simp
theorem step_allocV (hg : GuardOn ops md n S i o) {T : TypeId} {zs : List Value} {m : Nat} (hI : (P.info? T).map (fun i => (i.zero, i.size)) = some (some (.agg zs.toArray), m)) (ho : o.op = .alloc T) (hS : S i = IsZV W.heap.size zs) : StepOk P ops md W a0 n al S Q i o :=
 step_alloc hg (fun ev w => ex_allocV hI ev o ho w) fun w hw => by rw [hS]; exact ⟨w.heap.size, rfl, Below.size hw, Rw.new w zs T⟩
theorem step_one (hal : al i = false) (hg : GuardOn ops md n S i o) {x : Operand} {u v : Value} (hr : ∀ (ev : Operand → Value) w, ev x = u → (∀ c, ev (.const c) = c) → (execOp ev o).run P w = .ok (.value v) w) (hS : S i = Is v) (hx : Knows ops md W a0 n S i x u) : StepOk P ops md W a0 n al S Q i o :=
 step_run hal hg fun a w hw hf hd => ⟨v, hr a.eval w (hx a w hw hf hd) (fun _ => rfl), by rw [hS]; exact rfl⟩
theorem step_two (hal : al i = false) (hg : GuardOn ops md n S i o) {x y : Operand} {u t v : Value} (hr : ∀ (ev : Operand → Value) w, ev x = u → ev y = t → (∀ c, ev (.const c) = c) → (execOp ev o).run P w = .ok (.value v) w) (hS : S i = Is v) (hx : Knows ops md W a0 n S i x u) (hy : Knows ops md W a0 n S i y t) : StepOk P ops md W a0 n al S Q i o :=
 step_run hal hg fun a w hw hf hd => ⟨v, hr a.eval w (hx a w hw hf hd) (hy a w hw hf hd) (fun _ => rfl), by rw [hS]; exact rfl⟩
theorem step_mvP (hal : al i = false) (hg : GuardOn ops md n S i o) {x : Operand} {v : Value} (ho : o.op = .move x) (hS : S i = Is v) (hk : Knows ops md W a0 n S i x v) : StepOk P ops md W a0 n al S Q i o :=
 step_one hal hg (fun ev w h _ => by unfold execOp; simp only [ho, h]; rfl) hS hk
theorem step_copyW (hal : al i = false) (hg : GuardOn ops md n S i o) (j d : Nat) {R : Value → World → Prop} (ho : o.op = .move (.tmp d) ∨ o.op = .assign (.tmp d)) (hS : S i = R) (hj : j < n) (hw : Region.waitsFor md ops i j = true) (hd : dstOf ops j = some d) (hSj : S j = R) : StepOk P ops md W a0 n al S Q i o :=
 step_run hal hg fun a w _ _ hdp => ⟨a.eval (.tmp d), by
   unfold execOp
   rcases ho with ho | ho <;> simp only [ho] <;> rfl, by
   have h := hdp j d hj hw hd
   rw [hSj] at h
   rw [hS]; exact h⟩
theorem step_buildP (hal : al i = false) (hg : GuardOn ops md n S i o) {T : TypeId} {parts : Array (Nat × Operand)} {pv : List (Nat × Value)} {cs : Array Value} (ho : o.op = .build T parts) (hb : P.built T pv = some cs) (hS : S i = Is (.agg cs))
   (hv : ∀ (a : Act) (w : World), Cl W w → Fr ops n a0 a → Dp ops md n S i a w → (parts.map fun (i, x) => (i, a.eval x)).toList = pv) : StepOk P ops md W a0 n al S Q i o :=
 step_run hal hg fun a w hw hf hd => ⟨.agg cs, by
   have h := hv a w hw hf hd
   have hr := run_build (P := P) w T (parts.map fun (i, x) => (i, a.eval x)) cs (by rw [h]; exact hb)
   unfold execOp
   simp only [ho, Sem.run_bind, hr, Result.andThen_ok, Sem.run_pure], by rw [hS]; exact rfl⟩
theorem partsN : ∀ (a : Act) (w : World), Cl W w → Fr ops n a0 a → Dp ops md n S i a w → ((#[] : Array (Nat × Operand)).map fun (i, x) => (i, a.eval x)).toList = [] := fun _ _ _ _ _ => by simp
theorem step_len (hal : al i = false) (hg : GuardOn ops md n S i o) {T : TypeId} (hT : P.underlying T = some (.slice (P.elem T))) {x : Operand} {A : Option Addr} {m c : Nat} (ho : o.op = .call { callee := .builtin .len, args := #[x], argTypes := #[T] }) (hS : S i = Is (.int .i64 (m : Int))) (hk : Knows ops md W a0 n S i x (.slice A m c)) : StepOk P ops md W a0 n al S Q i o :=
 step_one hal hg (fun ev w h _ => by
   have hrun := run_len_slice w T o.type A m c hT
   unfold execOp
   simp only [ho, resolve, invoke, builtin, Sem.run_bind, Sem.run_pure, Result.andThen_ok, List.map_toArray, List.map_cons, List.map_nil, h, hrun]
   rfl) hS hk
theorem step_eqA (hal : al i = false) (hg : GuardOn ops md n S i o) {T e m : Nat} {k : IntKind} {x y : Operand} {xs ys : List Int} {b : Bool} (ho : o.op = .binOp .eql T x y T) (hT : P.underlying T = some (.array m e) ∧ P.underlying e = some (.int k) ∧ (P.info? e).map (·.size) = some 1 ∧ P.eqGuardType P.depth T = false) (hx : xs.length = m) (hy : ys.length = m) (hb : decide (xs = ys) = b) (hS : S i = Is (.bool b)) (h1 : Knows ops md W a0 n S i x (.agg (ints k xs).toArray)) (h2 : Knows ops md W a0 n S i y (.agg (ints k ys).toArray)) : StepOk P ops md W a0 n al S Q i o :=
 step_two hal hg (fun ev w h1 h2 _ => by
   have he := arr_eq_run (P := P) T e m k xs ys hT.1 hT.2.1 hT.2.2.1 hx hy 9998 w
   have heg := hT.2.2.2
   rw [hb] at he
   unfold execOp
   simp only [ho, h1, h2]
   go_simp) hS h1 h2
theorem step_neA (hal : al i = false) (hg : GuardOn ops md n S i o) {T e m : Nat} {k : IntKind} {x y : Operand} {xs ys : List Int} {b : Bool} (ho : o.op = .binOp .neq T x y T) (hT : P.underlying T = some (.array m e) ∧ P.underlying e = some (.int k) ∧ (P.info? e).map (·.size) = some 1 ∧ P.eqGuardType P.depth T = false) (hx : xs.length = m) (hy : ys.length = m) (hb : decide (xs = ys) = b) (hS : S i = Is (.bool (!b))) (h1 : Knows ops md W a0 n S i x (.agg (ints k xs).toArray)) (h2 : Knows ops md W a0 n S i y (.agg (ints k ys).toArray)) : StepOk P ops md W a0 n al S Q i o :=
 step_two hal hg (fun ev w h1 h2 _ => by
   have he := arr_eq_run (P := P) T e m k xs ys hT.1 hT.2.1 hT.2.2.1 hx hy 9998 w
   have heg := hT.2.2.2
   rw [hb] at he
   unfold execOp
   simp only [ho, h1, h2]
   go_simp) hS h1 h2
theorem step_eqC (hal : al i = false) (hg : GuardOn ops md n S i o) {T : Nat} {x : Operand} {c a : Int} {b : Bool} (ho : o.op = .binOp .eql T x (.const (.int .i64 c)) T) (hT : P.underlying T = some (.int .i64)) (hS : S i = Is (.bool b)) (hb : (a == c) = b) (h1 : Knows ops md W a0 n S i x (.int .i64 a)) : StepOk P ops md W a0 n al S Q i o :=
 step_one hal hg (fun ev w h hc => by
   have h2 := hc (.int .i64 c)
   subst hb
   unfold execOp
   simp only [ho, h, h2]
   go_simp) hS h1
theorem step_neC (hal : al i = false) (hg : GuardOn ops md n S i o) {T : Nat} {x : Operand} {c a : Int} {b : Bool} (ho : o.op = .binOp .neq T x (.const (.int .i64 c)) T) (hT : P.underlying T = some (.int .i64)) (hS : S i = Is (.bool b)) (hb : (!(a == c)) = b) (h1 : Knows ops md W a0 n S i x (.int .i64 a)) : StepOk P ops md W a0 n al S Q i o :=
 step_one hal hg (fun ev w h hc => by
   have h2 := hc (.int .i64 c)
   subst hb
   unfold execOp
   simp only [ho, h, h2]
   go_simp
   rfl) hS h1
theorem ex_slA {T : TypeId} (hT : P.underlying T = some (.array (P.arrayLen T) (P.elem T))) (hz : ∀ w, (sizeOf (P.elem T)).run P w = .ok 1 w) {m : Nat} (hm : P.arrayLen T = m) {x : Operand} (ho : o.op = .slice T x none none none) {b f : Nat} (ev : Operand → Value) (w : World) (hx : ev x = .pointer (some ⟨b, f, none⟩)) (_ : ∀ c, ev (.const c) = c) : (execOp ev o).run P w = .ok (.value (.slice (some ⟨b, f, none⟩) m m)) w := by
 subst hm
 unfold execOp
 simp only [ho, hx, Option.map_none, Sem.run_bind, run_sliceAt_array_all w T ⟨b, f, none⟩ hT, hz, Result.andThen_ok, Sem.run_pure]
 simp [slicedAt, Addr.add_mid]
theorem ex_slAh {T : TypeId} (hT : P.underlying T = some (.array (P.arrayLen T) (P.elem T))) (hz : ∀ w, (sizeOf (P.elem T)).run P w = .ok 1 w) {m h : Nat} (hm : P.arrayLen T = m) (hh : h ≤ m) {x : Operand} (ho : o.op = .slice T x none (some (.const (.int .i64 (h : Int)))) none) {b f : Nat} (ev : Operand → Value) (w : World) (hx : ev x = .pointer (some ⟨b, f, none⟩)) (hc : ∀ c, ev (.const c) = c) : (execOp ev o).run P w = .ok (.value (.slice (some ⟨b, f, none⟩) h m)) w := by
 subst hm
 unfold execOp
 simp only [ho, hx, Option.map_none, Option.map_some, hc, Sem.run_bind, run_sliceAt_array_h w T ⟨b, f, none⟩ hT .i64 (h : Int) (by omega) (by omega), hz, Result.andThen_ok, Sem.run_pure]
 simp [slicedAt, Addr.add_mid]
theorem ex_slAl {T : TypeId} (hT : P.underlying T = some (.array (P.arrayLen T) (P.elem T))) (hz : ∀ w, (sizeOf (P.elem T)).run P w = .ok 1 w) {m l f' k : Nat} (hm : P.arrayLen T = m) (hl : l < m) {x : Operand} (ho : o.op = .slice T x (some (.const (.int .i64 (l : Int)))) none none) {b f : Nat} (hf : f' = f + l) (hk : k = m - l) (ev : Operand → Value) (w : World) (hx : ev x = .pointer (some ⟨b, f, none⟩)) (hc : ∀ c, ev (.const c) = c) : (execOp ev o).run P w = .ok (.value (.slice (some ⟨b, f', none⟩) k k)) w := by
 subst hm hf hk
 unfold execOp
 simp only [ho, hx, Option.map_none, Option.map_some, hc, Sem.run_bind, run_sliceAt_array_l w T ⟨b, f, none⟩ hT .i64 (l : Int) (by omega) (by omega), hz, Result.andThen_ok, Sem.run_pure]
 have : ¬ P.arrayLen T = l := by omega
 simp [slicedAt, Addr.add_mid, this]
theorem ex_slSh {T : TypeId} (hT : P.underlying T = some (.slice (P.elem T))) (hz : ∀ w, (sizeOf (P.elem T)).run P w = .ok 1 w) {m c h : Nat} (hh : h ≤ c) {x : Operand} (ho : o.op = .slice T x none (some (.const (.int .i64 (h : Int)))) none) {A : Option Addr} (hA : A ≠ none ∨ 0 < 1) (ev : Operand → Value) (w : World) (hx : ev x = .slice A m c) (hc : ∀ c, ev (.const c) = c) : (execOp ev o).run P w = .ok (.value (.slice A h c)) w := by
 unfold execOp
 simp only [ho, hx, Option.map_none, Option.map_some, hc, Sem.run_bind, run_sliceAt_slice w T _ _ _ _ hT, run_slice_h w T A m c hT .i64 (h : Int) (by omega) (by omega), hz, Result.andThen_ok, Sem.run_pure]
 cases A with
 | none => simp [sliced]
 | some a =>
   have : a.add 0 = a := by unfold Addr.add; simp
   simp [sliced, this]
theorem ex_slSl {T : TypeId} (hT : P.underlying T = some (.slice (P.elem T))) (hz : ∀ w, (sizeOf (P.elem T)).run P w = .ok 1 w) {m c l f' m' c' : Nat} (hl : l ≤ m) (hlc : l < c) {x : Operand} (ho : o.op = .slice T x (some (.const (.int .i64 (l : Int)))) none none) {b f : Nat} (hf : f' = f + l) (hm : m' = m - l) (hcc : c' = c - l) (ev : Operand → Value) (w : World) (hx : ev x = .slice (some ⟨b, f, none⟩) m c) (hc : ∀ c, ev (.const c) = c) : (execOp ev o).run P w = .ok (.value (.slice (some ⟨b, f', none⟩) m' c')) w := by
 subst hf hm hcc
 unfold execOp
 simp only [ho, hx, Option.map_none, Option.map_some, hc, Sem.run_bind, run_sliceAt_slice w T _ _ _ _ hT, run_slice_l w T (some ⟨b, f, none⟩) m c hT .i64 (l : Int) (by omega) (by omega), hz, Result.andThen_ok, Sem.run_pure]
 have : ¬ c = l := by omega
 simp [sliced, Addr.add_mid, this]
theorem ex_arrP {T e : TypeId} {k : Nat} (hT : P.underlying T = some (.array k e)) {m c : Nat} (hk : k ≤ m) {x : Operand} (ho : o.op = .sliceToArrayPointer T x) {A : Option Addr} (ev : Operand → Value) (w : World) (hx : ev x = .slice A m c) (_ : ∀ c, ev (.const c) = c) : (execOp ev o).run P w = .ok (.value (.pointer A)) w := by
 unfold execOp
 simp only [ho, hx, Sem.run_bind, run_arrayAt w T e k A m c hT hk, Result.andThen_ok, Sem.run_pure]
theorem ex_fld {T k : Nat} {x : Operand} (ho : o.op = .fieldAddr T x k) {b f b' f' : Nat} (hr : ∀ w, (Instr.fieldAt T (.pointer (some ⟨b, f, none⟩)) k).run P w = .ok (.pointer (some ⟨b', f', none⟩)) w) (ev : Operand → Value) (w : World) (hx : ev x = .pointer (some ⟨b, f, none⟩)) (_ : ∀ c, ev (.const c) = c) : (execOp ev o).run P w = .ok (.value (.pointer (some ⟨b', f', none⟩))) w := by
 unfold execOp
 simp only [ho, hx, Sem.run_bind, hr, Result.andThen_ok, Sem.run_pure]
theorem ex_nilc {x : Operand} (ho : o.op = .nilCheck x) {a : Addr} (ev : Operand → Value) (w : World) (hx : ev x = .pointer (some a)) (_ : ∀ c, ev (.const c) = c) : (execOp ev o).run P w = .ok (.value (.pointer (some a))) w := by
 unfold execOp
 simp only [ho, hx]
 rfl
theorem step_bsl (hg : GuardOn ops md n S i o) {T e : TypeId} {k s : Nat} {z : Value} {parts : Array (Nat × Operand)} {pv : List (Nat × Value)} {vs : List Value} (ho : o.op = .buildSlice T k parts) (hu : P.underlying T = some (.slice e)) (hI : (P.info? e).map (fun i => (i.zero, i.size)) = some (some z, s)) (hsmall : ¬ k * s > 2 ^ 24) (hpos : ¬ k * s = 0)
   (hf : Instr.fill (fun i => some (i * s, s)) ((Array.range (k * s)).map (z.cells[· % z.cells.size]!)) pv = some vs.toArray) (hS : S i = IsRowV W.heap.size k vs)
   (hv : ∀ (a : Act) (w : World), Cl W w → Fr ops n a0 a → Dp ops md n S i a w → (parts.map fun (i, x) => (i, a.eval x)).toList = pv) : StepOk P ops md W a0 n al S Q i o := fun a w hw hf' hd => by
 rw [if_pos (hg.wanted hd)]
 cases hq : P.info? e with
 | none => rw [hq] at hI; simp at hI
 | some ie =>
   rw [hq] at hI
   simp only [Option.map_some, Option.some.injEq, Prod.mk.injEq] at hI
   obtain ⟨hz, rfl⟩ := hI
   refine wp_buildSlice T e k parts ho vs.toArray ie z hu hq hz hsmall hpos (by rw [hv a w hw hf' hd]; exact hf) ?_
   refine ⟨_, rfl, ?_, below_new w _, fun _ => ⟨_, rfl, Nat.le_refl _, by simp⟩⟩
   rw [hS]
   exact ⟨w.heap.size, rfl, Below.size hw, Rw.new w vs e⟩
theorem parts1 {x : Operand} {u : Value} (hx : Knows ops md W a0 n S i x u) : ∀ (a : Act) (w : World), Cl W w → Fr ops n a0 a → Dp ops md n S i a w → (#[(0, x)].map fun ((i : Nat), (x : Operand)) => (i, a.eval x)).toList = [(0, u)] := fun a w hw hf hd => by
 have h := hx a w hw hf hd
 simp [h]
theorem parts2 {x y : Operand} {u t : Value} (hx : Knows ops md W a0 n S i x u) (hy : Knows ops md W a0 n S i y t) : ∀ (a : Act) (w : World), Cl W w → Fr ops n a0 a → Dp ops md n S i a w → (#[(0, x), (1, y)].map fun ((i : Nat), (x : Operand)) => (i, a.eval x)).toList = [(0, u), (1, t)] := fun a w hw hf hd => by
 have h := hx a w hw hf hd
 have h2 := hy a w hw hf hd
 simp [h, h2]
theorem parts3 {x y z : Operand} {u t v : Value} (hx : Knows ops md W a0 n S i x u) (hy : Knows ops md W a0 n S i y t) (hz : Knows ops md W a0 n S i z v) : ∀ (a : Act) (w : World), Cl W w → Fr ops n a0 a → Dp ops md n S i a w → (#[(0, x), (1, y), (2, z)].map fun ((i : Nat), (x : Operand)) => (i, a.eval x)).toList = [(0, u), (1, t), (2, v)] := fun a w hw hf hd => by
 have h := hx a w hw hf hd
 have h2 := hy a w hw hf hd
 have h3 := hz a w hw hf hd
 simp [h, h2, h3]
theorem step_boxV (hg : GuardOn ops md n S i o) {T : TypeId} {x : Operand} {vs : List Value} (ho : o.op = .box T x) (hS : S i = IsZV W.heap.size vs) (hx : Knows ops md W a0 n S i x (.agg vs.toArray)) : StepOk P ops md W a0 n al S Q i o := fun a w hw hf hd => by
 rw [if_pos (hg.wanted hd)]
 have h := hx a w hw hf hd
 have hr : (execOp a.eval o).run P w = .ok (.value (.pointer (some ⟨w.heap.size, 0, none⟩))) (w.alloc (.cells vs.toArray T)) := by
   unfold execOp
   simp only [ho, h]
   simp [Instr.box, newVar, newRow, Value.cells]
 unfold Oper.wp
 rw [hr, Oper.upon_value]
 refine ⟨_, rfl, ?_, below_new w _, fun _ => ⟨_, rfl, Nat.le_refl _, by simp⟩⟩
 rw [hS]
 exact ⟨w.heap.size, rfl, Below.size hw, Rw.new w vs T⟩
theorem ex_fnP {ev : Operand → Value} {o : Oper} {f : FuncId} {xs : Array Operand} {ts : Array TypeId} (hf : ev (.func f) = .func (.func f) #[] #[]) (hc : ∀ vs w, (callFunc f vs).run P w = .ok (.enter f vs) w) (ho : o.op = .call { callee := .value (.func f), args := xs, argTypes := ts }) (vs : Array Value) (hv : xs.map ev = vs) (w : World) : (execOp ev o).run P w = .ok (.enter f vs) w := by
 subst hv
 unfold execOp
 simp only [ho]
 go_simp
theorem step_cw (hal : al i = false) (hg : GuardOn ops md n S i o) {f : FuncId} {xs : Array Operand} {ts : Array TypeId} {v : Value} (ho : o.op = .call { callee := .value (.func f), args := xs, argTypes := ts }) (hcf : ∀ vs w, (callFunc f vs).run P w = .ok (.enter f vs) w)
   (hS : S i = Is v) (hv : ∀ (a : Act) (w : World), Cl W w → Fr ops n a0 a → Dp ops md n S i a w → ∃ vs, xs.map a.eval = vs ∧ Calls P f vs w fun e w' => e = .returned v ∧ Below w.heap.size w w') : StepOk P ops md W a0 n al S Q i o :=
 step_call hal hg fun a w hw hf hd => by
   obtain ⟨vs, h1, h2⟩ := hv a w hw hf hd
   refine ⟨f, vs, ?_, h2.mono fun _ _ ⟨he, hb⟩ => ⟨v, he, by rw [hS]; exact rfl, hb⟩⟩
   exact ex_fnP rfl hcf ho vs h1 w
theorem step_appG {pre : Nat → Option Nat} (hg : o.guard = none) {s x : Operand} {t e : TypeId} {k : IntKind} {bytes : Nat} (j d : Nat) {xs ys zs : List Int} (hs : s = .tmp d) (ho : o.op = .call { callee := .builtin .append, args := #[s, x], argTypes := #[t, t] })
   (ht : P.underlying t = some (.slice e)) (hinf : (P.info? e).map (fun i => (i.zero, i.size, i.bytes)) = some (some (.int k 0), 1, bytes)) (hbt : 0 < bytes) (hpre : pre i = some j) (hj : j < n) (hw : Region.waitsFor md ops i j = true) (hd : dstOf ops j = some d) (hSj : S j = IsOwn W.heap.size e k xs) (hzs : zs = xs ++ ys)
   (h63 : (xs.length + ys.length) * bytes ≤ 140737488355328) (hS : S i = IsOwn W.heap.size e k zs) (hx : KnowsW ops md W a0 n S i x (fun v w => ∃ B c, v = .slice B ys.length c ∧ Nums w k B ys)) : StepG P ops md W a0 n al pre S Q i o := fun a w hcl hf hdp => by
 subst hs hzs
 have h1 := hdp j d hj hw hd
 rw [hSj] at h1
 obtain ⟨A, c, hA, hO⟩ := h1
 obtain ⟨B, c', hB, hN⟩ := hx a w hcl hf hdp
 have hwn : Region.wanted o (yielded ops a.tmps) = true := by simp [Region.wanted, hg]
 rw [if_pos hwn]
 have hrow : rowOf ops pre a i = (Value.slice A xs.length c).ownBlock := by
   unfold rowOf
   rw [hpre, Option.bind_some, hd, Option.bind_some, hA]
   cases A <;> rfl
 rw [hA] at hO
 refine wp_app (.tmp d) x t ho W.heap.size e k bytes ht hinf hbt A xs.length c xs hA hO B c' ys hB hN h63 (Below.size hcl) fun A' n' c'' w' hO' hG => ?_
 have hn' := hO'.len
 refine ⟨_, rfl, ?_, by rw [hrow]; exact hG.1, fun _ b hb => ?_⟩
 · rw [hS]
   exact ⟨A', c'', by rw [hn'], by rw [hn'] at hO'; rw [hn']; exact hO'⟩
 · have hb2 : (Value.slice A' n' c'').ownBlock = some b := by
     cases A' with
     | none => cases hb
     | some a' => exact hb
   refine ⟨?_, (hO'.lt b hb2).2⟩
   rw [hrow]
   rcases hG.2 with h | h
   · exact .inr (by rw [← h]; exact hb2)
   · exact .inl (h b hb2)
end
def IsSlV (m : Nat) (vs : List Value) : Value → World → Prop := fun v w => ∃ b c, v = .slice (some ⟨b, 0, none⟩) m c ∧ m ≤ c ∧ Rw w b 0 vs
theorem IsSlV.grows (m : Nat) (vs : List Value) : Grows (IsSlV m vs) := fun _ _ _ ⟨b, c, h1, h0, h2⟩ hb => ⟨b, c, h1, h0, h2.next hb⟩
def IsPt (vs : List Value) : Value → World → Prop := fun v w => ∃ b f, v = .pointer (some ⟨b, f, none⟩) ∧ Rw w b f vs
theorem IsPt.grows (vs : List Value) : Grows (IsPt vs) := fun _ _ _ ⟨b, f, h1, h2⟩ hb => ⟨b, f, h1, h2.next hb⟩
section
variable {P : Program} {ops : Array Oper} {md : Region.Mode} {W : World} {a0 : Act} {n : Nat} {al : Nat → Bool} {S : Nat → Value → World → Prop} {Q : Exit → Act → World → Prop} {i : Nat} {o : Oper}
theorem step_arrW (hal : al i = false) (hg : GuardOn ops md n S i o) {T e k m : Nat} {vs : List Value} (hT : P.underlying T = some (.array k e)) (hk : k ≤ m) {x : Operand} (ho : o.op = .sliceToArrayPointer T x) (hS : S i = IsPt vs) (hx : KnowsW ops md W a0 n S i x (IsSlV m vs)) : StepOk P ops md W a0 n al S Q i o :=
 step_run hal hg fun a w hw hf hd => by
   obtain ⟨b, c, h1, h0, h2⟩ := hx a w hw hf hd
   refine ⟨.pointer (some ⟨b, 0, none⟩), ?_, by rw [hS]; exact ⟨b, 0, rfl, h2⟩⟩
   exact ex_arrP hT hk ho a.eval w h1 (fun _ => rfl)
theorem step_ldP (hal : al i = false) (hg : GuardOn ops md n S i o) {T : TypeId} {x : Operand} {vs : List Value} {d : TypeDesc} (ho : o.op = .load T x) (hU : P.underlying T = some d) (hR : d.isRow = true) (hs : (P.info? T).map (·.size) = some vs.length) (hS : S i = Is (.agg vs.toArray)) (hx : KnowsW ops md W a0 n S i x (IsPt vs)) : StepOk P ops md W a0 n al S Q i o :=
 step_ldW hal hg ho hU hR hs hS (hx.and fun _ _ _ ⟨b, f, h1, h2⟩ => ⟨b, f, h1, h2.range⟩)
theorem app_full {w : World} {t ty e : TypeId} {k : IntKind} {bytes : Nat} (ht : P.underlying t = some (.slice e)) (hinf : (P.info? e).map (fun i => (i.zero, i.size, i.bytes)) = some (some (.int k 0), 1, bytes)) {b f m l c : Nat} {B : Option Addr} {xs ys : List Int}
   (hm : xs.length = m) (hl : ys.length = l) (hp : 0 < l) (hxs : Nums w k (some ⟨b, f, none⟩) xs) (hm0 : 0 < m) (hys : Nums w k B ys) (h63 : (m + l) * bytes ≤ 140737488355328) (hbt : 0 < bytes) :
   ∃ c' w', (Builtin.append_ #[t, t] ty #[.slice (some ⟨b, f, none⟩) m m, .slice B l c]).run P w = .ok (.slice (some ⟨w.heap.size, 0, none⟩) (m + l) c') w' ∧ m + l ≤ c' ∧ Rw w' w.heap.size 0 (ints k (xs ++ ys)) ∧ Below w.heap.size w w' ∧ w.heap.size < w'.heap.size := by
 obtain ⟨i, hi, hz, hsize, hby⟩ := info_parts hinf
 subst hm hl
 have hmx : xs.length + ys.length ≤ maxLen := by
   have : xs.length + ys.length ≤ (xs.length + ys.length) * bytes := Nat.le_mul_of_pos_right _ hbt
   unfold maxLen; omega
 obtain ⟨bb, ff, hB, hlt, hc⟩ := hys hp
 obtain ⟨b2, f2, e2, hlt2, hc2⟩ := hxs hm0
 injection e2 with e2
 injection e2 with e2 e3
 subst e2 e3
 subst hB
 have hrun := run_append_grow (P := P) w t ty e i (.int k 0) ht hi hz ⟨b, f, none⟩ xs.length xs.length (xs.map (Value.int k)) (by rw [hsize]; simp) (fun j v hv => by
     rw [List.getElem?_map, Option.map_eq_some_iff] at hv
     obtain ⟨x, hx, rfl⟩ := hv
     have hj := (List.getElem?_eq_some_iff.1 hx).1
     rw [Addr.add_mid, hc2 j hj, List.getD_eq_getElem?_getD, hx]; rfl) ⟨bb, ff, none⟩ ys.length c (ys.map (Value.int k)) (by rw [hsize]; simp) (fun j v hv => by
     rw [List.getElem?_map, Option.map_eq_some_iff] at hv
     obtain ⟨x, hx, rfl⟩ := hv
     have hj := (List.getElem?_eq_some_iff.1 hx).1
     rw [Addr.add_mid, hc j hj, List.getD_eq_getElem?_getD, hx]; rfl) (by omega) (by simp only [maxLen] at hmx; omega) (by rw [hby]; exact growslice_fits (by omega) h63)
 refine ⟨_, _, hrun, grownCap_ge _ _ _ _, ?_, ((Below.refl _ _).drew).alloc (Nat.le_refl _) _, by simp⟩
 intro j v hv
 rw [Nat.zero_add]
 have h1 := World.cell?_alloc_new (w := w.drew) ((xs.map (Value.int k)).toArray ++ (ys.map (Value.int k)).toArray ++ Builtin.zeroCells (Value.int k 0).cells (grownCap w (xs.length + ys.length) xs.length e - (xs.length + ys.length))) e j
 have h2 := World.frozen?_alloc_new (w := w.drew) ((xs.map (Value.int k)).toArray ++ (ys.map (Value.int k)).toArray ++ Builtin.zeroCells (Value.int k 0).cells (grownCap w (xs.length + ys.length) xs.length e - (xs.length + ys.length))) e j
 refine ⟨h1.trans ?_, h2⟩
 have hj := (List.getElem?_eq_some_iff.1 hv).1
 rw [ints_length, List.length_append] at hj
 rw [Array.getElem?_append_left (by simp; omega), ← hv]
 simp [ints]
theorem step_appF (hg : GuardOn ops md n S i o) {s x : Operand} {t e : TypeId} {k : IntKind} {bytes : Nat} (ho : o.op = .call { callee := .builtin .append, args := #[s, x], argTypes := #[t, t] }) (ht : P.underlying t = some (.slice e)) (hinf : (P.info? e).map (fun i => (i.zero, i.size, i.bytes)) = some (some (.int k 0), 1, bytes)) {b f m l c q : Nat} {B : Option Addr} {xs ys : List Int}
   (hm : xs.length = m) (hl : ys.length = l) (hm0 : 0 < m) (hp : 0 < l) (hxs : ∀ w, Cl W w → Nums w k (some ⟨b, f, none⟩) xs) (hys : ∀ w, Cl W w → Nums w k B ys) (h63 : (m + l) * bytes ≤ 140737488355328) (hbt : 0 < bytes) (hq : m + l = q) (hS : S i = IsSlV q (ints k (xs ++ ys)))
   (h1 : Knows ops md W a0 n S i s (.slice (some ⟨b, f, none⟩) m m)) (h2 : Knows ops md W a0 n S i x (.slice B l c)) : StepOk P ops md W a0 n al S Q i o := fun a w hw hf hd => by
 rw [if_pos (hg.wanted hd)]
 subst hq
 obtain ⟨c', w', hrun, hc', hR, hb, hlt⟩ := app_full (w := w) (ty := o.type) (c := c) ht hinf hm hl hp (hxs w hw) hm0 (hys w hw) h63 hbt
 have e1 := h1 a w hw hf hd
 have e2 := h2 a w hw hf hd
 unfold Oper.wp execOp
 simp only [ho, resolve, invoke, builtin, Sem.run_bind, Sem.run_pure, Result.andThen_ok, List.map_toArray, List.map_cons, List.map_nil, e1, e2, hrun]
 exact ⟨_, rfl, by rw [hS]; exact ⟨_, c', rfl, hc', hR⟩, hb, fun _ => ⟨_, rfl, Nat.le_refl _, hlt⟩⟩
end
end Go.Proofs.YthpibkpljakeeaaGreatDoor
