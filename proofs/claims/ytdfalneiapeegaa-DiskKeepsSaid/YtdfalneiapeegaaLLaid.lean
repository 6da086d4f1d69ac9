/- What is done, as it comes in. -/
import Derived.Test.YtdfalneiapeegaaLDo
import Derived.OpenShut
import Derived.WideShapes
import Derived.Deep.Slices
namespace Go.Proofs.Ytdfalneiapeegaa
open Go Go.RowKit Go.Maps

instance : Inhabited DoV := ⟨⟨0, 0, none, 0, []⟩⟩
theorem cDo : Try.prog.cellsOf 34 = 3 := by kernel_rfl
theorem cInt : Try.prog.cellsOf 3 = 1 := by kernel_rfl
theorem cBy : Try.prog.cellsOf 32 = 1 := by kernel_rfl
theorem cB : Try.prog.cellsOf 5 = 1 := by kernel_rfl
theorem three {α : Type} {l : List α} (h : l.length = 3) : ∃ a b c, l = [a, b, c] := by
  match l, h with
  | [a, b, c], _ => exact ⟨a, b, c, rfl⟩
theorem byts_of {x : List Int} (h : ∀ b ∈ x, (Lit.int .u8 b).wf = true) : Byts x := fun b hb => by
  have := h b hb
  simp [Lit.wf, IntKind.min, IntKind.max, IntKind.bits, IntKind.signed] at this
  omega
section
variable {H : Type} {enc : TypeId × Value → H} {w : World} {held : Bool}
theorem open_one {n : Nat} {cs : List Value} {x : DataW H × List MemPlace} (h : DataW.trod enc Try.prog w 0 (fun _ => true) held n 34 cs = some x) :
    ∃ d : DoV, cs = d.cells ∧ (Lit.int .i64 d.num).wf = true ∧ Byts d.x ∧ NumsD w.heap.size w .u8 d.A d.x := by
  obtain ⟨xs, m, _, _, hl, hxl, hf⟩ := DataW.trod_struct Try.underlying34 h
  rw [cDo] at hl
  obtain ⟨v0, v1, v2, rfl⟩ := three hl
  have h0 : DataW.trod enc Try.prog w 0 (fun _ => true) held m 3 (List.take (Try.prog.cellsOf 3) (List.drop 0 [v0, v1, v2])) = xs[0]? := hf 0 _ rfl
  have h1 : DataW.trod enc Try.prog w 0 (fun _ => true) held m 3 (List.take (Try.prog.cellsOf 3) (List.drop 1 [v0, v1, v2])) = xs[1]? := hf 1 _ rfl
  have h3 : DataW.trod enc Try.prog w 0 (fun _ => true) held m 32 (List.take (Try.prog.cellsOf 32) (List.drop 2 [v0, v1, v2])) = xs[2]? := hf 2 _ rfl
  rw [cInt] at h0 h1
  rw [cBy] at h3
  have hx3 : xs.length = 3 := hxl
  rw [List.getElem?_eq_getElem (show 0 < xs.length by omega)] at h0
  rw [List.getElem?_eq_getElem (show 1 < xs.length by omega)] at h1
  rw [List.getElem?_eq_getElem (show 2 < xs.length by omega)] at h3
  obtain ⟨n0, e0, _, w0⟩ := DataW.trod_int Try.underlying3 h0
  obtain ⟨n1, e1, _, w1⟩ := DataW.trod_int Try.underlying3 h1
  simp at e0 e1
  obtain ⟨a, c, zs, e5, hz, hN⟩ : ∃ (a : Option Addr) (c : Nat) (zs : List Int), v2 = .slice a zs.length c ∧ (∀ b ∈ zs, (Lit.int .u8 b).wf = true) ∧ Nums w .u8 a zs := by
    rcases ChangeShapes.open_ints Try.underlying32 Try.underlying5 cB h3 with ⟨hcs, _⟩ | ⟨a, len, cap, zs, hcs, _, hl, hm, hz, _, hcell, hwz⟩
    · simp at hcs
      exact ⟨none, 0, [], hcs, by simp, Nums.nil⟩
    · simp at hcs
      obtain ⟨xs, rfl, _, _, hw, hN⟩ := Nums.opened hl hm (by simpa using hz) hcell hwz
      exact ⟨some a, cap, xs, hcs, hw, hN⟩
  subst e0 e1 e5
  exact ⟨⟨n0, n1, a, c, zs⟩, rfl, w1, byts_of hz, hN.under⟩
theorem open_do {n : Nat} {cs : List Value} {x : DataW H × List MemPlace} (h : DataW.trod enc Try.prog w 0 (fun _ => true) held n 22 cs = some x) :
    ∃ (A : Option Addr) (c : Nat) (ds : List DoV), cs = [.slice A ds.length c] ∧ ds.length ≤ 9223372036854775807 ∧ DoRow w.heap.size w A ds := by
  rcases Deep.open_slice Try.underlying22 h with ⟨hcs, _⟩ | ⟨a, len, cap, m, k, D, Pl, hcs, _, hl, hm, hmm, _, hr⟩
  · exact ⟨none, 0, [], hcs, Nat.zero_le _, fun i d hi => by simp at hi⟩
  · rw [cDo] at hr
    have each : ∀ i, i < len → ∃ d : DoV, (∀ j v, d.cells[j]? = some v → w.cell? ((a.add (i * 3)).add j) = some v) ∧ (Lit.int .i64 d.num).wf = true ∧ Byts d.x ∧ NumsD w.heap.size w .u8 d.A d.x := fun i hi => by
      obtain ⟨cs', hc, ht⟩ := hr i (by rw [hmm]; show i < (if true = true then cap else len); rw [if_pos rfl]; omega)
      obtain ⟨_, hlen, hat⟩ := World.cells?_some hc
      obtain ⟨d, rfl, h1⟩ := open_one ht
      refine ⟨d, fun j v hj => ?_, h1⟩
      rw [hat j (by have := (List.getElem?_eq_some_iff.1 hj).1; omega), hj]
    obtain ⟨f, hf⟩ := Deep.choose_lt each
    have hml : maxLen ≤ 9223372036854775807 := by unfold maxLen; omega
    refine ⟨some a, cap, (List.range len).map f, by rw [hcs]; simp, by simp; omega, fun i d hi => ?_⟩
    have hil : i < len := by have := (List.getElem?_eq_some_iff.1 hi).1; simpa using this
    have hd : d = f i := by
      rw [List.getElem?_map, List.getElem?_range hil] at hi
      exact (Option.some.inj hi).symm
    subst hd
    obtain ⟨hc, h2⟩ := hf i hil
    obtain ⟨b, off, spot⟩ := a
    have h0 := (hf 0 (by omega)).1 0 _ rfl
    have hspot : spot = none := by simpa [Addr.add] using World.cell?_spot h0
    subst hspot
    have hc' : ∀ j v, (f i).cells[j]? = some v → w.cell? ⟨b, off + i * 3 + j, none⟩ = some v := fun j v hj => by
      have := hc j v hj
      rwa [Addr.add_mid, Addr.add_mid] at this
    exact ⟨⟨b, off, rfl, World.block_lt_of_cell? w _ (hc' 0 _ rfl), hc'⟩, h2⟩
end
end Go.Proofs.Ytdfalneiapeegaa
