/- An array of integers that came in, opened. -/
import Derived.Test.YtpncohoonfahpaaGreatDoorArr
import Derived.OpenShut
namespace Go.Proofs.YtpncohoonfahpaaGreatDoor
open Go.RowKit Go.ChangeShapes

theorem okWide_array {P : Program} {w : World} {r : Reach} {b0 t n e : Nat} {v : Value} (ht : P.underlying t = some (.array n e)) (h : Value.okWide P w r b0 t v) : ∃ cs, v = .agg cs ∧ cs.size = P.cellsOf t := by
  simp only [Value.okWide, ht] at h
  obtain ⟨cs, h1, h2, _⟩ := h
  exact ⟨cs, h1, h2⟩
theorem open_arr {H : Type} {enc : TypeId × Value → H} {P : Program} {w : World} {base : Nat} {spare : Nat → Bool} {held : Bool} {r : Reach} {b0 t n e : Nat} {k : IntKind} {v : Value} {d : DataW H} {ps : List MemPlace}
    (ht : P.underlying t = some (.array n e)) (he : P.underlying e = some (.int k)) (hce : P.cellsOf e = 1) (hct : P.cellsOf t = n) (hval : Value.okWide P w r b0 t v) (hd : DataW.Trod enc P w base spare held t v d ps) :
    ∃ xs : List Int, v = .agg (ints k xs).toArray ∧ xs.length = n ∧ ∀ x ∈ xs, (Lit.int k x).wf = true := by
  obtain ⟨cs, rfl, hs⟩ := okWide_array ht hval
  obtain ⟨fuel, hf⟩ := hd
  have hc : (Value.agg cs).cells.toList = cs.toList := by simp [Value.cells]
  rw [hc] at hf
  obtain ⟨ys, m, rfl, _, hl, hn, hall⟩ := DataW.trod_array ht hf
  rw [hct] at hl
  have hall2 : ∀ i, i < n → ∃ z, cs.toList[i]? = some (.int k z) ∧ (Lit.int k z).wf = true := fun i hi => by
    have h1 := hall i hi
    rw [hce, Nat.mul_one] at h1
    have h2 : ys[i]? = some ys[i] := by simp
    rw [h2] at h1
    obtain ⟨z, hc, _, hw⟩ := DataW.trod_int he h1
    refine ⟨z, ?_, hw⟩
    have := congrArg (·[0]?) hc
    simpa [List.getElem?_take, List.getElem?_drop] using this
  have key : ∀ l : List Value, (∀ i, i < l.length → ∃ z, l[i]? = some (.int k z) ∧ (Lit.int k z).wf = true) → ∃ xs : List Int, l = ints k xs ∧ ∀ x ∈ xs, (Lit.int k x).wf = true := by
    intro l
    induction l with
    | nil => exact fun _ => ⟨[], rfl, by simp⟩
    | cons y l ih =>
      intro h
      obtain ⟨z, hz, hw⟩ := h 0 (by simp)
      obtain ⟨xs, rfl, hx⟩ := ih (fun i hi => by have := h (i + 1) (by simp; omega); simpa using this)
      obtain rfl : y = .int k z := by simpa using hz
      exact ⟨z :: xs, rfl, fun x hx' => by
        rcases List.mem_cons.1 hx' with h | h
        · rw [h]; exact hw
        · exact hx x h⟩
  obtain ⟨xs, hxs, hx⟩ := key cs.toList (fun i hi => hall2 i (by omega))
  refine ⟨xs, ?_, by rw [← hl, hxs]; simp [ints], hx⟩
  rw [← hxs]
end Go.Proofs.YtpncohoonfahpaaGreatDoor
