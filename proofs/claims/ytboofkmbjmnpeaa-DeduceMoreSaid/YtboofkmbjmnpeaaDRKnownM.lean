/- The reference: which terms are known from those that are given. -/
import Derived.Test.YtboofkmbjmnpeaaDRMadeM
namespace Go.Proofs.Ytboofkmbjmnpeaa
open Go Go.RowKit Go.Maps

theorem MdI.sub {L : List T3} {G : Nat → Prop} {hs ms : List Bool} {k' c' : Nat → Bool} (hW : WF L) (h : MdI L hs L.length ms) (hk : ∀ i, bat hs i = true → k' i = true) (hc : Closed L G k' c') : ∀ i, bat ms i = true → c' i = true := fun i => by
  induction i using Nat.strongRecOn with
  | _ i ih =>
    intro hi
    have hl : i < L.length := by
      rcases Nat.lt_or_ge i L.length with h1 | h1
      · exact h1
      · rw [h.hi i h1] at hi; cases hi
    have ht : L[i]? = some L[i] := by simp [hl]
    rw [h.lo i _ hl ht, Bool.or_eq_true] at hi
    rcases hi with h1 | h1
    · exact hc.kc i (hk i h1)
    · refine hc.mak i _ ht ?_
      have e : mkB L[i] (fun q => bat ms q && decide (q < i)) = mkB L[i] (bat ms) := mkB_congr hW ht fun q hq => by simp [hq]
      rw [← e] at h1
      exact mkB_mono (fun q hq => by
        simp only [Bool.and_eq_true, decide_eq_true_eq] at hq
        exact ih q hq.2 hq.1) h1
theorem MdI.unique {L : List T3} {hs ms ms' : List Bool} (hW : WF L) (h : MdI L hs L.length ms) (h' : MdI L hs L.length ms') : bat ms = bat ms' := by
  funext i
  induction i using Nat.strongRecOn with
  | _ i ih =>
    rcases Nat.lt_or_ge i L.length with hl | hl
    · have ht : L[i]? = some L[i] := by simp [hl]
      rw [h.lo i _ hl ht, h'.lo i _ hl ht, mkB_congr hW ht fun q hq => ih q hq]
    · rw [h.hi i hl, h'.hi i hl]
/-- How many are not known. -/
def cntF : List Bool → Nat
  | [] => 0
  | b :: l => (if b then 0 else 1) + cntF l
theorem cntF_set : ∀ (l : List Bool) (i : Nat), i < l.length → bat l i = false → cntF (l.set i true) < cntF l
  | [], i, h, _ => by simp at h
  | b :: l, 0, h, hb => by
    have e : b = false := by simpa [bat] using hb
    subst e
    simp [cntF]
  | b :: l, i + 1, h, hb => by
    have := cntF_set l i (by simpa using h) (by simpa [bat] using hb)
    simp only [List.set_cons_succ, cntF]
    omega
/-- What holds between the rounds. -/
structure KnI (L : List T3) (gs : List Int) (hs : List Bool) : Prop where
  len : hs.length = L.length
  giv : ∀ i : Nat, (i : Int) ∈ gs → bat hs i = true
  sub : ∀ k' c', Closed L (Gv gs) k' c' → ∀ i, bat hs i = true → k' i = true
/-- No more was found up to there; or this one. -/
def MoI (L : List T3) (hs ms : List Bool) (j : Nat) (more : Int) : Prop :=
  (more = -1 ∧ ∀ (i : Nat) t, i < j → L[i]? = some t → bat hs i = true → shB t (keyOf3 L t) (bat ms) = true → bat hs t.2.2.toNat = true) ∨
  (0 ≤ more ∧ more < L.length ∧ bat hs more.toNat = false ∧ ∃ (i : Nat) (t : T3), L[i]? = some t ∧ bat hs i = true ∧ shB t (keyOf3 L t) (bat ms) = true ∧ t.2.2 = more)
section
variable {L : List T3} {gs : List Int} {hs ms : List Bool} {j : Nat} {more : Int}
theorem MoI.skip {t : T3} (h : MoI L hs ms j more) (ht : L[j]? = some t) (hn : bat hs j = false ∨ shB t (keyOf3 L t) (bat ms) = false ∨ bat hs t.2.2.toNat = true) : MoI L hs ms (j + 1) more := by
  rcases h with ⟨h1, h2⟩ | h1
  · refine .inl ⟨h1, fun i s hi hs2 hk hsh => ?_⟩
    by_cases e : i = j
    · subst e
      obtain rfl : t = s := Option.some.inj (ht.symm.trans hs2)
      rcases hn with h3 | h3 | h3
      · rw [hk] at h3; cases h3
      · rw [hsh] at h3; cases h3
      · exact h3
    · exact h2 i s (by omega) hs2 hk hsh
  · exact .inr h1
theorem MoI.take {t : T3} (ht : L[j]? = some t) (h1 : bat hs j = true) (h2 : shB t (keyOf3 L t) (bat ms) = true) (h3 : bat hs t.2.2.toNat = false) (h4 : 0 ≤ t.2.2 ∧ t.2.2 < L.length) : MoI L hs ms (j + 1) t.2.2 := .inr ⟨h4.1, h4.2, h3, j, t, ht, h1, h2, rfl⟩
theorem KnI.done (hW : WF L) (h : KnI L gs hs) (hM : MdI L hs L.length ms) (hm : MoI L hs ms L.length (-1)) : ∀ ms', MdI L hs L.length ms' → Least L (Gv gs) (bat hs) (bat ms') := fun ms' h' => by
  rw [← hM.unique hW h']
  have hcl : ∀ (i : Nat) t, L[i]? = some t → bat hs i = true → shB t (keyOf3 L t) (bat ms) = true → bat hs t.2.2.toNat = true := by
    rcases hm with ⟨_, h2⟩ | ⟨h1, _⟩
    · exact fun i t ht hk hsh => h2 i t (get_lt ht) ht hk hsh
    · omega
  refine ⟨⟨fun i hi => h.giv i hi, fun i hi => ?_, fun i t ht hm => ?_, hcl⟩, fun k' c' hc => ⟨h.sub k' c' hc, hM.sub hW (h.sub k' c' hc) hc⟩⟩
  · have hl : i < L.length := by
      rw [← h.len]
      rcases Nat.lt_or_ge i hs.length with h1 | h1
      · exact h1
      · simp [bat, h1] at hi
    rw [hM.lo i _ hl (List.getElem?_eq_getElem hl), hi, Bool.true_or]
  · rw [hM.lo i _ (get_lt ht) ht, hm, Bool.or_true]
theorem KnI.next (hW : WF L) (h : KnI L gs hs) (hM : MdI L hs L.length ms) (hm : MoI L hs ms L.length more) (h0 : 0 ≤ more) : more < L.length ∧ KnI L gs (hs.set more.toNat true) ∧ cntF (hs.set more.toNat true) < cntF hs := by
  rcases hm with ⟨h1, _⟩ | ⟨h1, h2, h3, i, t, ht, hi, hsh, hb⟩
  · omega
  · have hl : more.toNat < hs.length := by rw [h.len]; omega
    refine ⟨h2, ⟨by rw [List.length_set]; exact h.len, fun q hq => ?_, fun k' c' hc q hq => ?_⟩, cntF_set hs _ hl h3⟩
    · rw [bat_set hl]
      split
      · rfl
      · exact h.giv q hq
    · rw [bat_set hl] at hq
      split at hq
      · next e =>
        have hk := h.sub k' c' hc
        have := hc.sh i t ht (hk i hi) (shB_mono (hM.sub hW hk hc) hsh)
        rw [hb] at this
        rw [e]; exact this
      · exact h.sub k' c' hc q hq
end
end Go.Proofs.Ytboofkmbjmnpeaa
