/- A list of operations in a round of a range over a function: as everywhere else. No program is named. -/
import Derived.Test.YtdfalneiapeegaaCRound
namespace Go.Proofs.Ytdfalneiapeegaa
open Go Go.RowKit
section
variable {P : Program} {Q : Exit → Act → World → Prop} {k n : Nat} {ops : Array Oper}
theorem listIn_of_list (hQ : ¬ LetsOut Q) : ∀ (l : List Oper), (∀ o ∈ l, ∀ c, o.op ≠ .defer c) → ∀ (a : Act) (w : World), wpList P ops Q l a w → wpListIn (Fence.wide.inRound k) n P ops Q l a w
  | [], _, _, _, h => h
  | o :: rest, hnd, a, w, h => by
    unfold wpList at h
    unfold wpListIn
    split
    · rename_i hw
      rw [if_pos hw] at h
      rcases h with h | h
      · exact Oper.wpIn_mono (fun a' w' h' => listIn_of_list hQ rest (fun o ho => hnd o (List.mem_cons_of_mem _ ho)) a' w' h') (opIn_of_op (hnd o (List.mem_cons_self ..)) h)
      · exact absurd h.2 hQ
    · rename_i hw
      rw [if_neg hw] at h
      exact ⟨fun _ _ => trivial, listIn_of_list hQ rest (fun o ho => hnd o (List.mem_cons_of_mem _ ho)) _ w h⟩
theorem region_roundL {id : Nat} {a : Act} {w : World} {l : List Oper} (hnd : noDefer l = true) (hQ : ¬ LetsOut Q) (h : wpList P l.toArray Q l a w) : (Code.region id l.toArray false).wpIn (Fence.wide.inRound k) n P Q a w :=
  wpIn_region_list (listIn_of_list hQ _ (fun o ho c e => by
    have h1 := List.all_eq_true.1 hnd o (by simpa using ho)
    rw [e] at h1
    cases h1) _ _ (by simpa using h))
end
end Go.Proofs.Ytdfalneiapeegaa
