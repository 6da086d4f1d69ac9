/- What is done, as it comes in. -/
import Derived.Test.YtechhbljjnffaaaTLawA
import Derived.OpenShut
import Derived.WideShapes
import Derived.Deep.Slices
namespace Go.Proofs.Ytechhbljjnffaaa
open Go Go.RowKit Go.Maps

instance : Inhabited DoV := ⟨⟨0, 0, (0, 0, 0), none, 0, []⟩⟩
set_option maxRecDepth 50000 in
theorem cDo : Try.prog.cellsOf 36 = 6 := by kernel_rfl
set_option maxRecDepth 50000 in
theorem cInt : Try.prog.cellsOf 3 = 1 := by kernel_rfl
set_option maxRecDepth 50000 in
theorem cTm : Try.prog.cellsOf 33 = 3 := by kernel_rfl
set_option maxRecDepth 50000 in
theorem cBy : Try.prog.cellsOf 34 = 1 := by kernel_rfl
set_option maxRecDepth 50000 in
theorem cB : Try.prog.cellsOf 5 = 1 := by kernel_rfl
set_option maxRecDepth 50000 in
theorem six {α : Type} {l : List α} (h : l.length = 6) : ∃ a b c d e f, l = [a, b, c, d, e, f] := by
  match l, h with
  | [a, b, c, d, e, f], _ => exact ⟨a, b, c, d, e, f, rfl⟩
set_option maxRecDepth 50000 in
theorem tbyt_of {x : List Int} (h : ∀ b ∈ x, (Lit.int .u8 b).wf = true) : TByt x := fun b hb => by
  have := h b hb
  simp [Lit.wf, IntKind.min, IntKind.max, IntKind.bits, IntKind.signed] at this
  omega
section
variable {H : Type} {enc : TypeId × Value → H} {w : World} {held : Bool}
set_option maxRecDepth 50000 in
theorem open_one {n : Nat} {cs : List Value} {x : DataW H × List MemPlace} (h : DataW.trod enc Try.prog w 0 (fun _ => true) held n 36 cs = some x) :
    ∃ d : DoV, cs = d.cells ∧ Twf d.t ∧ (Lit.int .i64 d.num).wf = true ∧ TByt d.x ∧ NumsD w.heap.size w .u8 d.A d.x := by
  obtain ⟨xs, m, _, _, hl, hxl, hf⟩ := DataW.trod_struct Try.underlying36 h
  rw [cDo] at hl
  obtain ⟨v0, v1, v2, v3, v4, v5, rfl⟩ := six hl
  have h0 : DataW.trod enc Try.prog w 0 (fun _ => true) held m 3 (List.take (Try.prog.cellsOf 3) (List.drop 0 [v0, v1, v2, v3, v4, v5])) = xs[0]? := hf 0 _ rfl
  have h1 : DataW.trod enc Try.prog w 0 (fun _ => true) held m 3 (List.take (Try.prog.cellsOf 3) (List.drop 1 [v0, v1, v2, v3, v4, v5])) = xs[1]? := hf 1 _ rfl
  have h2 : DataW.trod enc Try.prog w 0 (fun _ => true) held m 33 (List.take (Try.prog.cellsOf 33) (List.drop 2 [v0, v1, v2, v3, v4, v5])) = xs[2]? := hf 2 _ rfl
  have h3 : DataW.trod enc Try.prog w 0 (fun _ => true) held m 34 (List.take (Try.prog.cellsOf 34) (List.drop 5 [v0, v1, v2, v3, v4, v5])) = xs[3]? := hf 3 _ rfl
  rw [cInt] at h0 h1
  rw [cTm] at h2
  rw [cBy] at h3
  have hx4 : xs.length = 4 := hxl
  rw [List.getElem?_eq_getElem (show 0 < xs.length by omega)] at h0
  rw [List.getElem?_eq_getElem (show 1 < xs.length by omega)] at h1
  rw [List.getElem?_eq_getElem (show 2 < xs.length by omega)] at h2
  rw [List.getElem?_eq_getElem (show 3 < xs.length by omega)] at h3
  obtain ⟨n0, e0, _, w0⟩ := DataW.trod_int Try.underlying3 h0
  obtain ⟨n1, e1, _, w1⟩ := DataW.trod_int Try.underlying3 h1
  simp at e0 e1
  obtain ⟨ys, m2, _, _, _, hyl, hg⟩ := DataW.trod_struct Try.underlying33 h2
  have hy3 : ys.length = 3 := hyl
  have g0 : DataW.trod enc Try.prog w 0 (fun _ => true) held m2 3 (List.take (Try.prog.cellsOf 3) (List.drop 0 (List.take 3 (List.drop 2 [v0, v1, v2, v3, v4, v5])))) = ys[0]? := hg 0 _ rfl
  have g1 : DataW.trod enc Try.prog w 0 (fun _ => true) held m2 3 (List.take (Try.prog.cellsOf 3) (List.drop 1 (List.take 3 (List.drop 2 [v0, v1, v2, v3, v4, v5])))) = ys[1]? := hg 1 _ rfl
  have g2 : DataW.trod enc Try.prog w 0 (fun _ => true) held m2 3 (List.take (Try.prog.cellsOf 3) (List.drop 2 (List.take 3 (List.drop 2 [v0, v1, v2, v3, v4, v5])))) = ys[2]? := hg 2 _ rfl
  rw [cInt] at g0 g1 g2
  rw [List.getElem?_eq_getElem (show 0 < ys.length by omega)] at g0
  rw [List.getElem?_eq_getElem (show 1 < ys.length by omega)] at g1
  rw [List.getElem?_eq_getElem (show 2 < ys.length by omega)] at g2
  obtain ⟨n2, e2, _, w2⟩ := DataW.trod_int Try.underlying3 g0
  obtain ⟨n3, e3, _, w3⟩ := DataW.trod_int Try.underlying3 g1
  obtain ⟨n4, e4, _, w4⟩ := DataW.trod_int Try.underlying3 g2
  simp at e2 e3 e4
  obtain ⟨a, c, zs, e5, hz, hN⟩ : ∃ (a : Option Addr) (c : Nat) (zs : List Int), v5 = .slice a zs.length c ∧ (∀ b ∈ zs, (Lit.int .u8 b).wf = true) ∧ Nums w .u8 a zs := by
    rcases ChangeShapes.open_ints Try.underlying34 Try.underlying5 cB h3 with ⟨hcs, _⟩ | ⟨a, len, cap, zs, hcs, _, hl, hm, hz, _, hcell, hwz⟩
    · simp at hcs
      exact ⟨none, 0, [], hcs, by simp, Nums.nil⟩
    · simp at hcs
      obtain ⟨xs, rfl, _, _, hw, hN⟩ := Nums.opened hl hm (by simpa using hz) hcell hwz
      exact ⟨some a, cap, xs, hcs, hw, hN⟩
  subst e0 e1 e2 e3 e4 e5
  exact ⟨⟨n0, n1, (n2, n3, n4), a, c, zs⟩, rfl, ⟨w2, w3, w4⟩, w1, tbyt_of hz, hN.under⟩
set_option maxRecDepth 50000 in
theorem open_do {n : Nat} {cs : List Value} {x : DataW H × List MemPlace} (h : DataW.trod enc Try.prog w 0 (fun _ => true) held n 22 cs = some x) :
    ∃ (A : Option Addr) (c : Nat) (ds : List DoV), cs = [.slice A ds.length c] ∧ ds.length ≤ 9223372036854775807 ∧ DoRow w.heap.size w A ds := by
  rcases Deep.open_slice Try.underlying22 h with ⟨hcs, _⟩ | ⟨a, len, cap, m, k, D, Pl, hcs, _, hl, hm, hmm, _, hr⟩
  · exact ⟨none, 0, [], hcs, Nat.zero_le _, fun i d hi => by simp at hi⟩
  · rw [cDo] at hr
    have each : ∀ i, i < len → ∃ d : DoV, (∀ j v, d.cells[j]? = some v → w.cell? ((a.add (i * 6)).add j) = some v) ∧ Twf d.t ∧ (Lit.int .i64 d.num).wf = true ∧ TByt d.x ∧ NumsD w.heap.size w .u8 d.A d.x := fun i hi => by
      obtain ⟨cs', hc, ht⟩ := hr i (by rw [hmm]; show i < (if true = true then cap else len); rw [if_pos rfl]; omega)
      obtain ⟨_, hlen, hat⟩ := World.cells?_some hc
      obtain ⟨d, rfl, h1⟩ := open_one ht
      refine ⟨d, fun j v hj => ?_, h1⟩
      rw [hat j (by have := get_lt hj; omega), hj]
    obtain ⟨f, hf⟩ := Deep.choose_lt each
    have hml : maxLen ≤ 9223372036854775807 := by unfold maxLen; omega
    refine ⟨some a, cap, (List.range len).map f, by rw [hcs]; simp, by simp; omega, fun i d hi => ?_⟩
    have hil : i < len := by have := get_lt hi; simpa using this
    have hd : d = f i := by
      rw [List.getElem?_map, List.getElem?_range hil] at hi
      exact (Option.some.inj hi).symm
    subst hd
    obtain ⟨hc, h2⟩ := hf i hil
    obtain ⟨b, off, spot⟩ := a
    have h0 := (hf 0 (by omega)).1 0 _ rfl
    have hspot : spot = none := by simpa [Addr.add] using World.cell?_spot h0
    subst hspot
    have hc' : ∀ j v, (f i).cells[j]? = some v → w.cell? ⟨b, off + i * 6 + j, none⟩ = some v := fun j v hj => by
      have := hc j v hj
      rwa [Addr.add_mid, Addr.add_mid] at this
    exact ⟨⟨b, off, rfl, World.block_lt_of_cell? w _ (hc' 0 _ rfl), hc'⟩, h2⟩
end
end Go.Proofs.Ytechhbljjnffaaa
