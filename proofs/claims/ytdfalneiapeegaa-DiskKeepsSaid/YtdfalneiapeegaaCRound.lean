/- A region that draws its order in a round of a range over a function: as everywhere else. No program is named. -/
import Derived.Test.YtdfalneiapeegaaMRow
import Derived.RangeFuncNested
import Derived.RangeFuncCalls
import Derived.RangeFuncLeaves
import Derived.RangeFuncBox
import Derived.OwnWalkIn
import Derived.TacticsInMore
import Derived.LoopIn
import Derived.OrdersIn
namespace Go.Proofs.Ytdfalneiapeegaa
open Go Go.RowKit

section
variable {P : Program} {ops : Array Oper} {md : Region.Mode} {Q : Exit → Act → World → Prop} {l n : Nat}
theorem rowsIn_wide {m : Nat} {row : String} {args : Array Value} {w : World} {R : Value → World → Prop} (h : Rows P row args w R) : RowsIn (Fence.wide.inRound l) m P row args w R := fun c cs _ => by
  obtain ⟨v, w', r, s⟩ := h c cs
  exact ⟨v, w', r, stepsIn_wide.2 s⟩
theorem opIn_of_op {o : Oper} {a : Act} {w : World} {K : Act → World → Prop} (hnd : ∀ c, o.op ≠ .defer c) (h : o.wp P a w K Q) : o.wpIn (Fence.wide.inRound l) n P a w K Q := by
  unfold Oper.wpIn
  refine ⟨fun _ _ => trivial, ?_⟩
  rw [show (Fence.wide.inRound l).round = some l from rfl, Oper.semAt_some l _ _ hnd]
  unfold Oper.wp at h
  generalize (execOp a.eval o).run P w = r at *
  have hd : (Fence.wide.inRound l).depth.isSome = true → 1 ≤ n := fun h => by cases h
  cases r with
  | ok x w' =>
    cases x <;> simp only [Oper.upon] at h <;> simp only [Oper.uponIn]
    case value => exact h
    case skip => exact h
    case defer => exact h
    case enter f args => exact ⟨hd, CallsIn.inRound l (callsIn_wide.2 h)⟩
    case row => exact ⟨hd, rowsIn_wide h⟩
  | halt x w' =>
    cases x <;> simp only [Oper.upon] at h <;> simp only [Oper.uponIn]
    exact h
theorem anyIn_of_any (hnd : ∀ (i : Nat) (o : Oper), ops[i]? = some o → ∀ c, o.op ≠ .defer c) (hQ : ¬ LetsOut Q) : ∀ (F : Nat) (listed : Array Bool) (a : Act) (w : World), wpAny P md ops Q F listed a w → wpAnyIn (Fence.wide.inRound l) n P md ops Q F listed a w
  | 0, _, _, _, h => h
  | F + 1, listed, a, w, h => ⟨h.1, fun i hi => by
    have h1 := h.2 i hi
    unfold wpOp at h1
    unfold wpOpIn
    cases ho : ops[i]? with
    | none => simp only [ho] at h1 ⊢; exact anyIn_of_any hnd hQ F _ _ _ h1
    | some o =>
      simp only [ho] at h1 ⊢
      split
      · rename_i hw
        rw [if_pos hw] at h1
        rcases h1 with h1 | h1
        · exact Oper.wpIn_mono (fun a' w' h' => anyIn_of_any hnd hQ F _ _ _ h') (opIn_of_op (hnd i o ho) h1)
        · exact absurd h1.2 hQ
      · rename_i hw
        rw [if_neg hw] at h1
        exact ⟨fun _ _ => trivial, anyIn_of_any hnd hQ F _ _ _ h1⟩⟩
def noDefer (l : List Oper) : Bool := l.all fun o => match o.op with
  | .defer _ => false
  | _ => true
theorem noDefer_spec {l : List Oper} (h : noDefer l = true) : ∀ (i : Nat) (o : Oper), l.toArray[i]? = some o → ∀ c, o.op ≠ .defer c := fun i o ho c e => by
  have h1 := List.all_eq_true.1 h o (List.mem_of_getElem? (by simpa using ho))
  rw [e] at h1
  cases h1
end
section
variable {P : Program} {W : World} {a0 : Act}
/-- The law of regions, in a round. -/
theorem region_round {id k m : Nat} {Q : Exit → Act → World → Prop} {l : List Oper} (n M : Nat) (al : Nat → Bool) (Ss : List (Value → World → Prop)) (ds : List Tmp) (hds : dstsOf l.toArray n = ds) (hm : P.follows .mixedOrders = true) (hB : specB .any l.toArray n M = true) (hM : M ≤ a0.tmps.size) (hnd : noDefer l = true) (hQ : ¬ LetsOut Q)
    (mono : ∀ S ∈ Ss, Grows S) (hst : Steps P l.toArray .any W a0 n al (sAt Ss) Q n 0 l)
    (hend : ∀ (val : Tmp → Value) w, Cl W w → (∀ i d, i < n → dstOf l.toArray i = some d → sAt Ss i (val d) w) →
      (∀ i j d d', i < n → j < n → al i = true → al j = true → i ≠ j → dstOf l.toArray i = some d → dstOf l.toArray j = some d' → home (val d) ≠ home (val d')) →
      (∀ i d, i < n → al i = true → dstOf l.toArray i = some d → ∃ b, home (val d) = some b ∧ W.heap.size ≤ b ∧ b < w.heap.size) → wpList P l.toArray Q (l.drop n) (putVals ds val a0) w) : (Code.region id l.toArray true).wpIn (Fence.wide.inRound k) m P Q a0 W := by
  have hB2 := hB
  simp only [specB, Bool.and_eq_true, decide_eq_true_eq] at hB2
  obtain ⟨⟨⟨⟨⟨hn, hs⟩, hc⟩, hback⟩, hdst⟩, hseq⟩ := hB2
  refine wpIn_region_any hm (anyIn_of_any (noDefer_spec hnd) hQ _ _ _ _ ?_)
  have hrep : ∀ i, (Array.replicate l.toArray.size false).getD i false = false := fun i => getD_replicate_false _ _
  refine spec_any (W := W) (a0 := a0) (al := al) (S := sAt Ss) (l := l) rfl hB hM (fun i v w w' h1 h2 => grows_at mono i v w w' h1 h2) (fun i o hi ho => ?_) (fun a w st => ?_) _ _ _ _ ?_ ?_ ?_
  · have := Steps.at_ n 0 l hst i o hi (by simpa using ho)
    rwa [Nat.zero_add] at this
  · rw [st.act, hds]
    have hl : ∀ i, i < n → (headArr n l.toArray.size).getD i false = true := fun i hi => head_true hi
    exact hend (fun d => a.eval (.tmp d)) w st.cl (fun i d hi hd => st.at_ i d hi hd) (fun i j d d' hi hj hai haj hij hd hd' => st.apart i j hi hj (hl i hi) (hl j hj) hai haj hij d d' hd hd') (fun i d hi hai hd => st.laid i hi (hl i hi) hai d hd)
  · have := lacking_new l.toArray.size
    simpa using this
  · refine ⟨⟨by simp, fun j oj _ hl _ _ _ => ?_, fun t _ hts => ?_⟩, fun i hi => by omega⟩
    · rw [hrep] at hl; cases hl
    · exact getD_in (by simpa using hts) (hrep t)
  · refine ⟨Cl.drew W, rfl, rfl, fun _ _ => rfl, fun i _ h => ?_, fun i _ h => ?_, fun i j _ _ h => ?_⟩ <;> (rw [hrep] at h; cases h)
end
end Go.Proofs.Ytdfalneiapeegaa
